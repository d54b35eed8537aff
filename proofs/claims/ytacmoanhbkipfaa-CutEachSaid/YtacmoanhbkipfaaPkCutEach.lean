/- P15.2: Rate, or Amount, off each unit, one by one, whatever the others are; for every promo, slice of units, flag, and number. No conditions. -/
import Derived.Test.YtacmoanhbkipfaaPk0
import Derived.Test.YtacmoanhbkipfaaPk27
import Derived.Test.YtacmoanhbkipfaaPk8

set_option maxRecDepth 100000
namespace Go.Proofs.Ytacmoanhbkipfaa.cutEach
open Go.ChangeShapes Go.WideShapes Go.ChangeAt Go.RowKit
open Ap (Scp Prt Tir Prm Unt kPrm kPrt kTir kUnt row_Prm row_Unt row_Tir)
open Kd (Kind Row Cells Fit Agree Lst Sl kStr kInt row_int)
open Ko (Out Told Told2 At row_on)
open Ct
set_option maxRecDepth 100000
set_option linter.unusedVariables false
theorem own : ownKnob Try.prog.godebug = none := by kernel_rfl
theorem unitsOf_each {us vs : List Unt} (h : unitsOf us = vs) {t : Nat} {u : Unt} (hu : vs[t]? = some u) : 0 ≤ u.net ∧ u.net < 3000 := by
  subst h
  obtain ⟨v, _, rfl⟩ := unitsFrom_at (i := 0) hu
  exact (unitAt_fine (0 + t) v).2
set_option maxHeartbeats 16000000 in
theorem walk_true (w : World) (p : Prm) (l : Prm.Lay) (hP : Ap.Prm.Holds w (· < w.heap.size) p l) (A : Option Addr) (n c : Nat) (us : List Unt) (hU : Row kUnt w (· < w.heap.size) A n us) (hfU : Kd.Fit A n c) (at_ : Int) (wat : (Lit.int .i64 at_).wf = true) :
    Calls Try.prog 4 #[.agg #[.string p.id, .int .i64 p.kind, .int .i64 p.priority, .string p.group, .string p.code, .bool p.closes, .slice l.scope.skus.A l.scope.skus.n l.scope.skus.c, .slice l.scope.cats.A l.scope.cats.n l.scope.cats.c, .int .i64 p.least, .int .i64 p.rate, .int .i64 p.amount, .int .i64 p.buy, .int .i64 p.get, .slice l.parts.A l.parts.n l.parts.c, .slice l.tiers.A l.tiers.n l.tiers.c], .slice A n c, .bool true, .int .i64 at_] w fun e w' => e = .returned (.bool true) ∧ Below w.heap.size w w' := by
  obtain ⟨W1, hW1⟩ : ∃ W1, w.alloc (.cells #[.string p.id, .int .i64 p.kind, .int .i64 p.priority, .string p.group, .string p.code, .bool p.closes, .slice l.scope.skus.A l.scope.skus.n l.scope.skus.c, .slice l.scope.cats.A l.scope.cats.n l.scope.cats.c, .int .i64 p.least, .int .i64 p.rate, .int .i64 p.amount, .int .i64 p.buy, .int .i64 p.get, .slice l.parts.A l.parts.n l.parts.c, .slice l.tiers.A l.tiers.n l.tiers.c] 28) = W1 := ⟨_, rfl⟩
  have hb1 : Below w.heap.size w W1 := by rw [← hW1]; exact (Below.refl _ _).alloc (Nat.le_refl _) _
  have hx1 : Qu.Blk W1 w.heap.size 28 #[.string p.id, .int .i64 p.kind, .int .i64 p.priority, .string p.group, .string p.code, .bool p.closes, .slice l.scope.skus.A l.scope.skus.n l.scope.skus.c, .slice l.scope.cats.A l.scope.cats.n l.scope.cats.c, .int .i64 p.least, .int .i64 p.rate, .int .i64 p.amount, .int .i64 p.buy, .int .i64 p.get, .slice l.parts.A l.parts.n l.parts.c, .slice l.tiers.A l.tiers.n l.tiers.c] := by rw [← hW1]; exact Qu.Blk.new w _ _
  have HFw := Lib.hid (few_any p l A n c W1 (Pr.holds_later hP hb1))
  have HB1 := Lib.hid hb1
  have x0 := hx1.cell 0
  have x1 := hx1.cell 1
  have x2 := hx1.cell 2
  have x3 := hx1.cell 3
  have x4 := hx1.cell 4
  have x5 := hx1.cell 5
  have x6 := hx1.cell 6
  have x7 := hx1.cell 7
  have x8 := hx1.cell 8
  have x9 := hx1.cell 9
  have x10 := hx1.cell 10
  have x11 := hx1.cell 11
  have x12 := hx1.cell 12
  have x13 := hx1.cell 13
  have x14 := hx1.cell 14
  have HX := Lib.hid hx1
  have HP := Lib.hid hP
  have HU := Lib.hid hU
  have HVs := Lib.hid (unitsOf_may us)
  clear hx1 hb1 hP hU hfU
  go_enter Try.func4, Try.ntmps4
  go_wp2_with fail
  clear hW1
  refine HFw.out.mono ?_
  rintro e w2 ⟨b, rfl, hfew, hb2⟩
  clear x0 x1 x2 x3 x4 x5 x6 x7 x8 x9 x10 x11 x12 x13 x14
  cases b with
  | false =>
    clear hfew HFw HX HP HU HVs
    have HA := Lib.hid (awake_any w2)
    have HB := Lib.hid (HB1.out.trans (hb2.mono HB1.out.size))
    go_wp2_with fail
    refine HA.out.mono ?_
    rintro e w3 ⟨rfl, hb3⟩
    have HB3 := Lib.hid (HB.out.trans (hb3.mono HB.out.size))
    clear hb3
    go_wp2
    go_ret
    exact ⟨rfl, HB3.out⟩
  | true =>
      have hfw := hfew rfl
      have hn2 : n ≤ 200 := hfw.units
      have HS := Lib.hid (small_of HP.out hfw.skus hfw.cats hfw.parts hfw.tiers)
      have HX2 := Lib.hid (HX.out.below hb2)
      have HB2 := Lib.hid (HB1.out.trans (hb2.mono HB1.out.size))
      obtain ⟨vs, hvs⟩ : ∃ vs, unitsOf us = vs := ⟨_, rfl⟩
      have HVo := Lib.hid hvs
      have hk60 : vs.length ≤ 60 := by rw [← hvs]; exact unitsOf_length us
      obtain ⟨k, hk⟩ : ∃ k, vs.length = k := ⟨_, rfl⟩
      rw [hk] at hk60
      rw [hvs] at HVs
      have y1 := HX2.out.cell 1
      have yf := HX2.out.frozen 1
      clear hfew hfw hb2 HFw HX HB1
      obtain ⟨W3, hW3⟩ : ∃ W3, ((w2.setCell ⟨w.heap.size, 1, none⟩ (.int .i64 2)).setCell ⟨w.heap.size, 1, none⟩ (.int .i64 1)) = W3 := ⟨_, rfl⟩
      have hz3 : Qu.Blk W3 w.heap.size 28 #[.string p.id, .int .i64 1, .int .i64 p.priority, .string p.group, .string p.code, .bool p.closes, .slice l.scope.skus.A l.scope.skus.n l.scope.skus.c, .slice l.scope.cats.A l.scope.cats.n l.scope.cats.c, .int .i64 p.least, .int .i64 p.rate, .int .i64 p.amount, .int .i64 p.buy, .int .i64 p.get, .slice l.parts.A l.parts.n l.parts.c, .slice l.tiers.A l.tiers.n l.tiers.c] := by rw [← hW3]; exact (HX2.out.put 1 _).put 1 _
      have hb3 : Below w.heap.size w W3 := by rw [← hW3]; exact (HB2.out.setCell (Nat.le_refl _) _).setCell (Nat.le_refl _) _
      have hlt3 := hz3.lt
      have HLt := Lib.hid hlt3
      have HB3 := Lib.hid hb3
      have hz0 := hz3.drew
      have hpk : Ap.Prm.Holds W3 (· < w.heap.size) (withKind p 1) l := by
        have h9 := holds_in HP.out hb3
        exact ⟨h9.id, by show (-9223372036854775808 : Int) ≤ 1 ∧ (1 : Int) ≤ 9223372036854775807; omega, h9.priority, h9.group, h9.code, h9.scope, h9.least, h9.rate, h9.amount, h9.buy, h9.get, h9.parts, h9.tiers⟩
      have HSk : Hid (Pr.PrmSmall (withKind p 1) l) := Lib.hid ⟨HS.out.scope, HS.out.parts, HS.out.np, HS.out.nt, HS.out.few⟩
      have hPr := fun (u : World) (hu : Mv.Only W3 u (Mv.one w.heap.size)) => near2_any (withKind p 1) l u (holds_only hpk hlt3 hu) HSk.out
      have hkind := near_kind (p := p) (z := 1) (by omega)
      obtain ⟨q, hq⟩ : ∃ q, Py.nearP (withKind p 1) 1 = q := ⟨_, rfl⟩
      rw [hq] at hkind
      simp only [hq] at hPr
      unfold MadeN at hPr
      have HKq := Lib.hid hkind
      have HPr : Hid (∀ (u : World), Mv.Only W3 u (Mv.one w.heap.size) → Calls Try.prog 13 #[.agg #[.string p.id, .int .i64 1, .int .i64 p.priority, .string p.group, .string p.code, .bool p.closes, .slice l.scope.skus.A l.scope.skus.n l.scope.skus.c, .slice l.scope.cats.A l.scope.cats.n l.scope.cats.c, .int .i64 p.least, .int .i64 p.rate, .int .i64 p.amount, .int .i64 p.buy, .int .i64 p.get, .slice l.parts.A l.parts.n l.parts.c, .slice l.tiers.A l.tiers.n l.tiers.c], .int .i64 1] u fun e w' => ∃ m : Prm.Lay, e = .returned (.agg #[.string q.id, .int .i64 q.kind, .int .i64 q.priority, .string q.group, .string q.code, .bool q.closes, .slice m.scope.skus.A m.scope.skus.n m.scope.skus.c, .slice m.scope.cats.A m.scope.cats.n m.scope.cats.c, .int .i64 q.least, .int .i64 q.rate, .int .i64 q.amount, .int .i64 q.buy, .int .i64 q.get, .slice m.parts.A m.parts.n m.parts.c, .slice m.tiers.A m.tiers.n m.tiers.c]) ∧ Pr.promoB q = true ∧ (q.scope.skus.length ≤ 8 ∧ q.scope.cats.length ≤ 8 ∧ q.tiers.length ≤ 6 ∧ q.parts.length ≤ 3) ∧ Py.Anew u w' q m) := Lib.hid hPr
      have hUn := fun (u : World) (hu : Mv.Only W3 u (Mv.one w.heap.size)) => units_any A n c us u (((HU.out.below hb3 (Nat.le_refl _)).stay (fun b hb => hu.block b (by omega) fun e => by have : b = w.heap.size := e; omega)).more (fun b hb => by have := hu.size; omega)) (by omega)
      unfold Ko.Told at hUn
      simp only [hvs, hk] at hUn
      have HUn := Lib.hid hUn
      have x0 := hz3.cell 0
      have x1 := hz3.cell 1
      have x2 := hz3.cell 2
      have x3 := hz3.cell 3
      have x4 := hz3.cell 4
      have x5 := hz3.cell 5
      have x6 := hz3.cell 6
      have x7 := hz3.cell 7
      have x8 := hz3.cell 8
      have x9 := hz3.cell 9
      have x10 := hz3.cell 10
      have x11 := hz3.cell 11
      have x12 := hz3.cell 12
      have x13 := hz3.cell 13
      have x14 := hz3.cell 14
      have HW3 := Lib.hid hW3
      clear hb3 hlt3 hpk hPr hkind hq hUn hz3 hvs hk hW3
      go_upto_region 6 with (fail)
      rw [HW3.out]
      go_cut [1] from 25 to 28 (fun s1 wx => ∃ (A3 : Option Addr) (c3 : Nat) (m : Prm.Lay), s1 = .slice A3 k c3 ∧ Hid (Turned w wx A3 k c3 vs q m ∧ Pr.promoB q = true ∧ (q.scope.skus.length ≤ 8 ∧ q.scope.cats.length ≤ 8 ∧ q.tiers.length ≤ 6 ∧ q.parts.length ≤ 3)))
      case first =>
        refine wp_region_held_drew (S := fun u => Mv.Only W3 u (Mv.one w.heap.size)) (by kernel_rfl) ((Mv.Only.refl W3 _).drew) (fun hS0 => ?_)
        refine pkT 0 25 hS0 ?_
        try simp only [Act.put, pkA, pkB, pkC]
        refine wpAnyH_ready (rs := [1, 2]) (by kernel_rfl) (by simp) ?_
        refine AllReadyH.cons (o := ⟨some 26, _, _, _, _, _⟩) rfl (fun K hK => ?_) ?_
        ·
          go_simp
          refine (HUn.out _ hS0).mono ?_
          rintro e wU ⟨A3, c3, rfl, hoU, hbU⟩
          have hyU : Mv.Only W3 wU (Mv.one w.heap.size) := Mv.Only.below hS0 hbU
          have hzU : Qu.Blk wU w.heap.size 28 #[.string p.id, .int .i64 1, .int .i64 p.priority, .string p.group, .string p.code, .bool p.closes, .slice l.scope.skus.A l.scope.skus.n l.scope.skus.c, .slice l.scope.cats.A l.scope.cats.n l.scope.cats.c, .int .i64 p.least, .int .i64 p.rate, .int .i64 p.amount, .int .i64 p.buy, .int .i64 p.get, .slice l.parts.A l.parts.n l.parts.c, .slice l.tiers.A l.tiers.n l.tiers.c] := (by first | exact hzP.below hbU | exact hz0.below hbU)
          have zU0 := hzU.cell 0
          have zU1 := hzU.cell 1
          have zU2 := hzU.cell 2
          have zU3 := hzU.cell 3
          have zU4 := hzU.cell 4
          have zU5 := hzU.cell 5
          have zU6 := hzU.cell 6
          have zU7 := hzU.cell 7
          have zU8 := hzU.cell 8
          have zU9 := hzU.cell 9
          have zU10 := hzU.cell 10
          have zU11 := hzU.cell 11
          have zU12 := hzU.cell 12
          have zU13 := hzU.cell 13
          have zU14 := hzU.cell 14
          have zUf := hzU.frozen
          go_wp2_with fail
          refine hK.out _ _ (hyU) (fun hS1 => ?_)
          clear hK K
          try simp only [Act.put, pkA, pkB, pkC]
          refine wpAnyH_ready (rs := [2]) (by kernel_rfl) (by simp) ?_
          refine AllReadyH.cons (o := ⟨some 27, _, _, _, _, _⟩) rfl (fun K hK => ?_) AllReadyH.nil
          go_simp
          refine hK.out _ _ (hS1) (fun hS2 => ?_)
          clear hK K
          try simp only [Act.put, pkA, pkB, pkC]
          refine wpAnyH_ready (rs := [3]) (by kernel_rfl) (by simp) ?_
          refine AllReadyH.cons (o := ⟨some 28, _, _, _, _, _⟩) rfl (fun K hK => ?_) AllReadyH.nil
          go_simp
          refine (HPr.out _ hS2).mono ?_
          rintro e wP ⟨m, rfl, hmP, hfP, haP⟩
          have hyP : Mv.Only W3 wP (Mv.one w.heap.size) := Mv.Only.below hS2 haP.below
          have hzP : Qu.Blk wP w.heap.size 28 #[.string p.id, .int .i64 1, .int .i64 p.priority, .string p.group, .string p.code, .bool p.closes, .slice l.scope.skus.A l.scope.skus.n l.scope.skus.c, .slice l.scope.cats.A l.scope.cats.n l.scope.cats.c, .int .i64 p.least, .int .i64 p.rate, .int .i64 p.amount, .int .i64 p.buy, .int .i64 p.get, .slice l.parts.A l.parts.n l.parts.c, .slice l.tiers.A l.tiers.n l.tiers.c] := (by first | exact hzU.below haP.below | exact hz0.below haP.below)
          have zP0 := hzP.cell 0
          have zP1 := hzP.cell 1
          have zP2 := hzP.cell 2
          have zP3 := hzP.cell 3
          have zP4 := hzP.cell 4
          have zP5 := hzP.cell 5
          have zP6 := hzP.cell 6
          have zP7 := hzP.cell 7
          have zP8 := hzP.cell 8
          have zP9 := hzP.cell 9
          have zP10 := hzP.cell 10
          have zP11 := hzP.cell 11
          have zP12 := hzP.cell 12
          have zP13 := hzP.cell 13
          have zP14 := hzP.cell 14
          have zPf := hzP.frozen
          go_wp2_with fail
          refine hK.out _ _ (hyP) (fun hS3 => ?_)
          clear hK K
          try simp only [Act.put, pkA, pkB, pkC]
          refine pkT 4 1 hS3 ?_
          try simp only [Act.put, pkA, pkB, pkC]
          refine wpAnyH_ready (rs := [5]) (by kernel_rfl) (by simp) ?_
          refine AllReadyH.cons (o := ⟨none, _, _, _, _, _⟩) rfl (fun K hK => ?_) AllReadyH.nil
          go_simp
          refine hK.out _ _ (Py.only_puts (q.enc m) _ 0 hS3) (fun hS4 => ?_)
          clear hK K
          try simp only [Act.put, pkA, pkB, pkC]
          refine wpAnyH_done (by kernel_rfl) ?_ _
          go_wp2_with fail
          go_meet
          first | exact ⟨A3, c3, m, rfl, Lib.hid ⟨turned_in (hoU.later haP.below) HLt.out haP hzU.lt hzP ⟨_, _, _, _, _, _, _, _, _, _, _, _, _, _, _, rfl⟩ (HB3.out.trans (hyP.toBelow (Nat.le_of_lt HLt.out) fun j hj e => by have : j = w.heap.size := e; omega)) rfl, hmP, hfP⟩⟩ | exact ⟨A3, c3, m, rfl, Lib.hid ⟨turned_in hoU hzP.lt (anew_on haP hbU) HLt.out hzU ⟨_, _, _, _, _, _, _, _, _, _, _, _, _, _, _, rfl⟩ (HB3.out.trans (hyU.toBelow (Nat.le_of_lt HLt.out) fun j hj e => by have : j = w.heap.size := e; omega)) rfl, hmP, hfP⟩⟩
        refine AllReadyH.cons (o := ⟨some 27, _, _, _, _, _⟩) rfl (fun K hK => ?_) AllReadyH.nil
        go_simp
        refine hK.out _ _ (hS0) (fun hS1 => ?_)
        clear hK K
        try simp only [Act.put, pkA, pkB, pkC]
        refine wpAnyH_ready (rs := [1]) (by kernel_rfl) (by simp) ?_
        refine AllReadyH.cons (o := ⟨some 26, _, _, _, _, _⟩) rfl (fun K hK => ?_) AllReadyH.nil
        go_simp
        refine (HUn.out _ hS1).mono ?_
        rintro e wU ⟨A3, c3, rfl, hoU, hbU⟩
        have hyU : Mv.Only W3 wU (Mv.one w.heap.size) := Mv.Only.below hS1 hbU
        have hzU : Qu.Blk wU w.heap.size 28 #[.string p.id, .int .i64 1, .int .i64 p.priority, .string p.group, .string p.code, .bool p.closes, .slice l.scope.skus.A l.scope.skus.n l.scope.skus.c, .slice l.scope.cats.A l.scope.cats.n l.scope.cats.c, .int .i64 p.least, .int .i64 p.rate, .int .i64 p.amount, .int .i64 p.buy, .int .i64 p.get, .slice l.parts.A l.parts.n l.parts.c, .slice l.tiers.A l.tiers.n l.tiers.c] := (by first | exact hzP.below hbU | exact hz0.below hbU)
        have zU0 := hzU.cell 0
        have zU1 := hzU.cell 1
        have zU2 := hzU.cell 2
        have zU3 := hzU.cell 3
        have zU4 := hzU.cell 4
        have zU5 := hzU.cell 5
        have zU6 := hzU.cell 6
        have zU7 := hzU.cell 7
        have zU8 := hzU.cell 8
        have zU9 := hzU.cell 9
        have zU10 := hzU.cell 10
        have zU11 := hzU.cell 11
        have zU12 := hzU.cell 12
        have zU13 := hzU.cell 13
        have zU14 := hzU.cell 14
        have zUf := hzU.frozen
        go_wp2_with fail
        refine hK.out _ _ (hyU) (fun hS2 => ?_)
        clear hK K
        try simp only [Act.put, pkA, pkB, pkC]
        refine wpAnyH_ready (rs := [3]) (by kernel_rfl) (by simp) ?_
        refine AllReadyH.cons (o := ⟨some 28, _, _, _, _, _⟩) rfl (fun K hK => ?_) AllReadyH.nil
        go_simp
        refine (HPr.out _ hS2).mono ?_
        rintro e wP ⟨m, rfl, hmP, hfP, haP⟩
        have hyP : Mv.Only W3 wP (Mv.one w.heap.size) := Mv.Only.below hS2 haP.below
        have hzP : Qu.Blk wP w.heap.size 28 #[.string p.id, .int .i64 1, .int .i64 p.priority, .string p.group, .string p.code, .bool p.closes, .slice l.scope.skus.A l.scope.skus.n l.scope.skus.c, .slice l.scope.cats.A l.scope.cats.n l.scope.cats.c, .int .i64 p.least, .int .i64 p.rate, .int .i64 p.amount, .int .i64 p.buy, .int .i64 p.get, .slice l.parts.A l.parts.n l.parts.c, .slice l.tiers.A l.tiers.n l.tiers.c] := (by first | exact hzU.below haP.below | exact hz0.below haP.below)
        have zP0 := hzP.cell 0
        have zP1 := hzP.cell 1
        have zP2 := hzP.cell 2
        have zP3 := hzP.cell 3
        have zP4 := hzP.cell 4
        have zP5 := hzP.cell 5
        have zP6 := hzP.cell 6
        have zP7 := hzP.cell 7
        have zP8 := hzP.cell 8
        have zP9 := hzP.cell 9
        have zP10 := hzP.cell 10
        have zP11 := hzP.cell 11
        have zP12 := hzP.cell 12
        have zP13 := hzP.cell 13
        have zP14 := hzP.cell 14
        have zPf := hzP.frozen
        go_wp2_with fail
        refine hK.out _ _ (hyP) (fun hS3 => ?_)
        clear hK K
        try simp only [Act.put, pkA, pkB, pkC]
        refine pkT 4 1 hS3 ?_
        try simp only [Act.put, pkA, pkB, pkC]
        refine wpAnyH_ready (rs := [5]) (by kernel_rfl) (by simp) ?_
        refine AllReadyH.cons (o := ⟨none, _, _, _, _, _⟩) rfl (fun K hK => ?_) AllReadyH.nil
        go_simp
        refine hK.out _ _ (Py.only_puts (q.enc m) _ 0 hS3) (fun hS4 => ?_)
        clear hK K
        try simp only [Act.put, pkA, pkB, pkC]
        refine wpAnyH_done (by kernel_rfl) ?_ _
        go_wp2_with fail
        go_meet
        first | exact ⟨A3, c3, m, rfl, Lib.hid ⟨turned_in (hoU.later haP.below) HLt.out haP hzU.lt hzP ⟨_, _, _, _, _, _, _, _, _, _, _, _, _, _, _, rfl⟩ (HB3.out.trans (hyP.toBelow (Nat.le_of_lt HLt.out) fun j hj e => by have : j = w.heap.size := e; omega)) rfl, hmP, hfP⟩⟩ | exact ⟨A3, c3, m, rfl, Lib.hid ⟨turned_in hoU hzP.lt (anew_on haP hbU) HLt.out hzU ⟨_, _, _, _, _, _, _, _, _, _, _, _, _, _, _, rfl⟩ (HB3.out.trans (hyU.toBelow (Nat.le_of_lt HLt.out) fun j hj e => by have : j = w.heap.size := e; omega)) rfl, hmP, hfP⟩⟩
      case rest =>
        obtain ⟨A3, c3, m, rfl, HT⟩ := hcut
        clear x0 x1 x2 x3 x4 x5 x6 x7 x8 x9 x10 x11 x12 x13 x14 hz0 HPr HUn HSk HLt HB3 HW3 HX2 HB2
        have hx := HT.out.1.blk
        have x5 := hx.cell 5
        have xf := hx.frozen 5
        obtain ⟨W4, hW4⟩ : ∃ W4, wc.setCell ⟨w.heap.size, 5, none⟩ (.bool false) = W4 := ⟨_, rfl⟩
        have hT4 : Turned w W4 A3 k c3 vs (withCloses q false) m := by rw [← hW4]; exact HT.out.1.put false
        have hmay := closes_may HT.out.2.1 (by have := HKq.out; omega) false
        have hkd : (withCloses q false).kind = 1 := HKq.out
        have HSq : Hid (Pr.PrmSmall (withCloses q false) m) := Lib.hid (small_of hT4.all (by have := HT.out.2.2; show q.scope.skus.length ≤ 40; omega) (by have := HT.out.2.2; show q.scope.cats.length ≤ 40; omega) (by have := HT.out.2.2; show q.parts.length ≤ 20; omega) (by have := HT.out.2.2; show q.tiers.length ≤ 20; omega))
        obtain ⟨Q, hQ⟩ : ∃ Q, withCloses q false = Q := ⟨_, rfl⟩
        have hcl : Q.closes = false := by rw [← hQ]; rfl
        rw [hQ] at hT4 hmay hkd HSq
        have HT4 := Lib.hid hT4
        have HQ := Lib.hid (And.intro hmay (And.intro hkd hcl))
        have H5 := mine_any A3 k c3 vs 9223372036854775807 W4 hT4.urow (by omega) (by decide) (by decide)
        unfold Ko.Told at H5
        have hpl : (mineL 9223372036854775807 vs).length ≤ 60 := by have := mineFrom_length 9223372036854775807 0 vs; have := HT.out.1.row.len; unfold mineL; omega
        have hpm := mine_may 9223372036854775807 vs
        obtain ⟨ps, hps⟩ : ∃ ps, mineL 9223372036854775807 vs = ps := ⟨_, rfl⟩
        rw [hps] at H5 hpl hpm
        obtain ⟨j, hj⟩ : ∃ j, ps.length = j := ⟨_, rfl⟩
        simp only [hj] at H5
        rw [hj] at hpl
        have HMy := Lib.hid (And.intro (May.mk HVs.out hpm) hj)
        have H5h := Lib.hid H5
        have HW4 := Lib.hid hW4
        clear hT4 hmay hkd hcl hQ hx H5 hps hj hW4 hpm
        go_upto_region 8 with (fail)
        rw [HW4.out]
        clear HW4 x5 xf HT
        go_wp2_with fail
        refine H5h.out.mono ?_
        rintro e w5 ⟨A5, c5, rfl, ho5, hb5⟩
        have HT5 := Lib.hid (HT4.out.on hb5)
        have HM5 := Lib.hid ho5.read
        clear hb5 ho5 H5h HT4
        by_cases hj0 : j = 0
        · subst hj0
          have HA := Lib.hid (awake_any w5)
          go_wp2_with fail
          refine HA.out.mono ?_
          rintro e w6 ⟨rfl, hb6⟩
          have HB6 := Lib.hid (HT5.out.below.trans (hb6.mono HT5.out.below.size))
          clear hb6
          go_wp2
          go_ret
          exact ⟨rfl, HB6.out⟩
        have b0 : ((j : Int) == 0) = false := by rw [beq_eq_false_iff_ne]; omega
        have hj1 : 1 ≤ j := by omega
        have hfit := HT5.out.fit
        have H6 := lapply_any Q m A3 k c3 vs A5 j c5 ps w5 HT5.out.all HSq.out HT5.out.urow hfit HM5.out (by omega) (by omega)
        unfold Ko.Told2 at H6
        have hylen := applyU_length Q vs ps
        have hone := fun (i : Nat) (x : Int) (u : Unt) (h1 : ps[i]? = some x) (h2 : vs[x.toNat]? = some u) => apply_one HQ.out.1 (by have := HQ.out.2.1; omega) HQ.out.2.2 HMy.out.1 h1 h2
        obtain ⟨ys, hys⟩ : ∃ ys, (applyU Q vs ps).1 = ys := ⟨_, rfl⟩
        obtain ⟨z, hz⟩ : ∃ z, (applyU Q vs ps).2 = z := ⟨_, rfl⟩
        simp only [hys, hz] at H6 hone
        rw [hys, HT5.out.row.len] at hylen
        simp only [hylen] at H6
        have H6h := Lib.hid H6
        have HOne := Lib.hid hone
        have x0 := HT5.out.blk.cell 0
        have x1 := HT5.out.blk.cell 1
        have x2 := HT5.out.blk.cell 2
        have x3 := HT5.out.blk.cell 3
        have x4 := HT5.out.blk.cell 4
        have x5 := HT5.out.blk.cell 5
        have x6 := HT5.out.blk.cell 6
        have x7 := HT5.out.blk.cell 7
        have x8 := HT5.out.blk.cell 8
        have x9 := HT5.out.blk.cell 9
        have x10 := HT5.out.blk.cell 10
        have x11 := HT5.out.blk.cell 11
        have x12 := HT5.out.blk.cell 12
        have x13 := HT5.out.blk.cell 13
        have x14 := HT5.out.blk.cell 14
        clear H6 hone hys hz hj0 hylen hfit
        go_wp2_with fail
        refine H6h.out.mono ?_
        rintro e w6 ⟨A6, c6, rfl, ho6, hb6⟩
        clear x0 x1 x2 x3 x4 x5 x6 x7 x8 x9 x10 x11 x12 x13 x14
        have HT6 := Lib.hid (HT5.out.on hb6)
        have HM6 := Lib.hid (row_on HM5.out hb6)
        have HR6 := Lib.hid ho6.read
        have hr := Py.modN_lt at_ (j : Int) (by omega)
        have H7 := fun W => Py.mod_any at_ (j : Int) W (by omega) (by omega)
        obtain ⟨r, hr2⟩ : ∃ r, Py.modN at_ (j : Int) = r := ⟨_, rfl⟩
        rw [hr2] at hr H7
        obtain ⟨x, hx⟩ := HM6.out.get (show r < j by omega)
        obtain ⟨xx0, u, hu, hop⟩ := HMy.out.1.places.at_ r x hx
        obtain ⟨t, ht⟩ : ∃ t : Nat, x = (t : Int) := ⟨x.toNat, by omega⟩
        subst ht
        have hya := HOne.out r (t : Int) u hx hu
        rw [Int.toNat_natCast] at hu hya
        have htk : t < k := by have := (List.getElem?_eq_some_iff.1 hu).1; have := HT5.out.row.len; omega
        obtain ⟨g5, o5, rfl, _, _, _, m0⟩ := row_int HM6.out hx
        have HUu := Lib.hid (And.intro hu (And.intro hop hya))
        have r0 : (0 : Int) ≤ (r : Int) := by omega
        have r1 : (r : Int) < (j : Int) := by omega
        have t0 : (0 : Int) ≤ (t : Int) := by omega
        have t1 : (t : Int) < (k : Int) := by omega
        have htb : -9223372036854775808 ≤ (t : Int) ∧ (t : Int) ≤ 9223372036854775807 := by omega
        obtain ⟨W7, hW7⟩ : ∃ W7, w6.alloc (.cells #[.int .i64 (t : Int)] 3) = W7 := ⟨_, rfl⟩
        have hb7 : Below w6.heap.size w6 W7 := by rw [← hW7]; exact (Below.refl _ _).alloc (Nat.le_refl _) _
        have hm7 : Qu.Blk W7 w6.heap.size 3 #[.int .i64 (t : Int)] := by rw [← hW7]; exact Qu.Blk.new w6 _ _
        have hT7 := HT6.out.on hb7
        have hmy7 := one_may HVs.out hu hop
        have H8 := lapply_any Q m A3 k c3 vs (some ⟨w6.heap.size, 0, none⟩) 1 1 [(t : Int)] W7 hT7.all HSq.out hT7.urow hT7.fit (one_int htb hm7) (by omega) (by omega)
        unfold Ko.Told2 at H8
        have hylen2 := applyU_length Q vs [(t : Int)]
        have hyb := apply_one HQ.out.1 (by have := HQ.out.2.1; omega) HQ.out.2.2 hmy7 (j := 0) (m := (t : Int)) (u := u) rfl (by rw [Int.toNat_natCast]; exact hu)
        rw [Int.toNat_natCast] at hyb
        obtain ⟨zs, hzs⟩ : ∃ zs, (applyU Q vs [(t : Int)]).1 = zs := ⟨_, rfl⟩
        obtain ⟨z2, hz2⟩ : ∃ z2, (applyU Q vs [(t : Int)]).2 = z2 := ⟨_, rfl⟩
        simp only [hzs, hz2] at H8 hyb
        rw [hzs, HT5.out.row.len] at hylen2
        simp only [hylen2] at H8
        have H8h := Lib.hid H8
        have HYb := Lib.hid hyb
        have HT7 := Lib.hid hT7
        have HR7 := Lib.hid (row_on HR6.out hb7)
        have HB67 := Lib.hid hb7
        have HW7 := Lib.hid hW7
        have H7h := Lib.hid (H7 w6)
        have x0 := HT6.out.blk.cell 0
        have x1 := HT6.out.blk.cell 1
        have x2 := HT6.out.blk.cell 2
        have x3 := HT6.out.blk.cell 3
        have x4 := HT6.out.blk.cell 4
        have x5 := HT6.out.blk.cell 5
        have x6 := HT6.out.blk.cell 6
        have x7 := HT6.out.blk.cell 7
        have x8 := HT6.out.blk.cell 8
        have x9 := HT6.out.blk.cell 9
        have x10 := HT6.out.blk.cell 10
        have x11 := HT6.out.blk.cell 11
        have x12 := HT6.out.blk.cell 12
        have x13 := HT6.out.blk.cell 13
        have x14 := HT6.out.blk.cell 14
        clear ho6 hb6 H6h H7 H8 hya hu hop hx hr hr2 hm7 hb7 hT7 hmy7 hyb hzs hz2 hylen2 hW7 xx0 HOne htb HT5
        go_wp2_with fail
        refine H7h.out.mono ?_
        rintro e wz ⟨rfl, hw⟩
        obtain rfl := hw.symm
        clear H7h
        go_upto_region 13 with (fail)
        go_wp2_with fail
        rw [HW7.out]
        refine H8h.out.mono ?_
        rintro e w8 ⟨A8, c8, rfl, ho8, hb8⟩
        clear x0 x1 x2 x3 x4 x5 x6 x7 x8 x9 x10 x11 x12 x13 x14 m0
        have HT8 := Lib.hid (HT7.out.on hb8)
        have HR68 := Lib.hid (row_on HR7.out hb8)
        have HR8 := Lib.hid ho8.read
        clear ho8 hb8 H8h HT7 HR7 HB67 HW7 HM6 HM5 HR6 HT6
        obtain ⟨g6, o6, rfl, hg6, _, _, p0, p1, p2⟩ := row_Unt HR68.out HUu.out.2.2
        obtain ⟨g8, o8, rfl, hg8, _, _, s0, s1, s2⟩ := row_Unt HR8.out HYb.out
        obtain ⟨g3, o3, rfl, hg3, _, _, v0, v1, v2⟩ := row_Unt HT8.out.urow HUu.out.1
        have hbx := HT8.out.blk
        obtain ⟨Z, hZ⟩ : ∃ Z, u.net - offOne Q u.net = Z := ⟨_, rfl⟩
        simp only [hZ] at p1 s1
        have cp0 : ∀ W, Below w8.heap.size w8 W → W.cell? ⟨g6, o6 + t * 3, none⟩ = some (.int .i64 u.line) := fun W h => (h.cell (p := ⟨g6, _, none⟩) hg6).trans p0
        have cp1 : ∀ W, Below w8.heap.size w8 W → W.cell? ⟨g6, o6 + t * 3 + 1, none⟩ = some (.int .i64 Z) := fun W h => (h.cell (p := ⟨g6, _, none⟩) hg6).trans p1
        have cp2 : ∀ W, Below w8.heap.size w8 W → W.cell? ⟨g6, o6 + t * 3 + 2, none⟩ = some (.bool u.opn) := fun W h => (h.cell (p := ⟨g6, _, none⟩) hg6).trans p2
        have cs0 : ∀ W, Below w8.heap.size w8 W → W.cell? ⟨g8, o8 + t * 3, none⟩ = some (.int .i64 u.line) := fun W h => (h.cell (p := ⟨g8, _, none⟩) hg8).trans s0
        have cs1 : ∀ W, Below w8.heap.size w8 W → W.cell? ⟨g8, o8 + t * 3 + 1, none⟩ = some (.int .i64 Z) := fun W h => (h.cell (p := ⟨g8, _, none⟩) hg8).trans s1
        have cs2 : ∀ W, Below w8.heap.size w8 W → W.cell? ⟨g8, o8 + t * 3 + 2, none⟩ = some (.bool u.opn) := fun W h => (h.cell (p := ⟨g8, _, none⟩) hg8).trans s2
        have cv1 : ∀ W, Below w8.heap.size w8 W → W.cell? ⟨g3, o3 + t * 3 + 1, none⟩ = some (.int .i64 u.net) := fun W h => (h.cell (p := ⟨g3, _, none⟩) hg3).trans v1
        have cr : ∀ W, Below w8.heap.size w8 W → W.cell? ⟨w.heap.size, 9, none⟩ = some (.int .i64 Q.rate) := fun W h => (h.cell (p := ⟨w.heap.size, _, none⟩) hbx.lt).trans (hbx.cell 9)
        have HB8 := Lib.hid HT8.out.below
        have HA := Lib.hid (fun W => awake_any W)
        have hun := unitsOf_each HVo.out HUu.out.1
        have hnn := hun
        clear p0 p1 p2 s0 s1 s2 v0 v1 v2 hg6 hg8 hg3 hbx hun
        obtain ⟨N, Qn, M, M2, hE⟩ := enum_ (X := u.net) (r := Q.rate) ⟨hnn.1, by omega⟩ (rate_in HQ.out.1 HQ.out.2.1)
        have hoff : offOne Q u.net = halfN u.net Q.rate := by unfold offOne; rw [if_pos HQ.out.2.1]
        rw [hoff] at hZ
        obtain ⟨q1, q2, q3, q4, q5, q6, q7, q8, q9, q10, q11, q12, hE1, hE2, hE3⟩ := hE
        obtain ⟨X, hX⟩ : ∃ X, u.net = X := ⟨_, rfl⟩
        obtain ⟨rr, hrr⟩ : ∃ rr, Q.rate = rr := ⟨_, rfl⟩
        simp only [hX, hrr] at *
        have HNz := Lib.hid (And.intro hZ (And.intro hE1 (And.intro hE2 (And.intro hE3 hnn))))
        clear hX hrr hZ hE1 hE2 hE3 hnn hoff
        clear HQ HUu HYb HR68 HR8 HT8 HSq HMy
        go_wp2_with fail
        refine wp_region_held_drew (S := fun u => Below w8.heap.size w8 u) (by kernel_rfl) ((Below.refl _ _).drew) (fun hS0 => ?_)
        refine wpAnyH_ready (rs := [0]) (by kernel_rfl) (by simp) ?_
        refine AllReadyH.cons (o := ⟨some 58, _, _, _, _, _⟩) rfl (fun K hK => ?_) AllReadyH.nil
        go_simp
        refine (HA.out _).mono ?_
        rintro e wa ⟨rfl, hba⟩
        have hya : Below w8.heap.size w8 wa := Below.trans hS0 (hba.mono (Below.size hS0))
        go_wp2_with fail
        refine hK.out _ _ (hya) (fun hS1 => ?_)
        clear hK K
        try simp only [Act.put, pkA, pkB, pkC]
        refine pkT 1 59 hS1 ?_
        try simp only [Act.put, pkA, pkB, pkC]
        refine pkT 2 60 hS1 ?_
        try simp only [Act.put, pkA, pkB, pkC]
        refine pkT 3 61 hS1 ?_
        try simp only [Act.put, pkA, pkB, pkC]
        refine pkT 4 62 hS1 ?_
        try simp only [Act.put, pkA, pkB, pkC]
        refine pkT 5 63 hS1 ?_
        try simp only [Act.put, pkA, pkB, pkC]
        refine pkT 6 64 hS1 ?_
        try simp only [Act.put, pkA, pkB, pkC]
        refine pkT 7 65 hS1 ?_
        try simp only [Act.put, pkA, pkB, pkC]
        refine pkT 8 66 hS1 ?_
        try simp only [Act.put, pkA, pkB, pkC]
        refine pkT 9 67 hS1 ?_
        try simp only [Act.put, pkA, pkB, pkC]
        refine pkT 10 68 hS1 ?_
        try simp only [Act.put, pkA, pkB, pkC]
        refine pkT 11 69 hS1 ?_
        try simp only [Act.put, pkA, pkB, pkC]
        refine pkT 12 70 hS1 ?_
        try simp only [Act.put, pkA, pkB, pkC]
        refine pkT 13 71 hS1 ?_
        try simp only [Act.put, pkA, pkB, pkC]
        refine pkT 14 72 hS1 ?_
        try simp only [Act.put, pkA, pkB, pkC]
        refine pkT 15 73 hS1 ?_
        try simp only [Act.put, pkA, pkB, pkC]
        refine pkT 16 74 hS1 ?_
        try simp only [Act.put, pkA, pkB, pkC]
        refine pkT 17 75 hS1 ?_
        try simp only [Act.put, pkA, pkB, pkC]
        refine pkT 18 76 hS1 ?_
        try simp only [Act.put, pkA, pkB, pkC]
        refine pkT 19 77 hS1 ?_
        try simp only [Act.put, pkA, pkB, pkC]
        refine pkT 20 78 hS1 ?_
        try simp only [Act.put, pkA, pkB, pkC]
        refine pkT 21 79 hS1 ?_
        try simp only [Act.put, pkA, pkB, pkC]
        refine pkT 22 80 hS1 ?_
        try simp only [Act.put, pkA, pkB, pkC]
        refine pkT 23 81 hS1 ?_
        try simp only [Act.put, pkA, pkB, pkC]
        refine pkT 24 82 hS1 ?_
        try simp only [Act.put, pkA, pkB, pkC]
        refine pkT 25 83 hS1 ?_
        try simp only [Act.put, pkA, pkB, pkC]
        refine pkT 26 84 hS1 ?_
        try simp only [Act.put, pkA, pkB, pkC]
        refine wpAnyH_done (by kernel_rfl) ?_ _
        have HB9 := Lib.hid (And.intro hya (HB8.out.trans (hya.mono HB8.out.size)))
        clear hba hya
        go_wp2_with fail
        refine wp_region_held_drew (S := fun u => Below w8.heap.size w8 u) (by kernel_rfl) (HB9.out.1.drew) (fun hS0 => ?_)
        refine pkT 0 86 hS0 ?_
        try simp only [Act.put, pkA, pkB, pkC]
        refine pkT 1 87 hS0 ?_
        try simp only [Act.put, pkA, pkB, pkC]
        refine pkT 2 88 hS0 ?_
        try simp only [Act.put, pkA, pkB, pkC]
        refine pkT 3 89 hS0 ?_
        try simp only [Act.put, pkA, pkB, pkC]
        refine pkT 4 90 hS0 ?_
        try simp only [Act.put, pkA, pkB, pkC]
        refine pkT 5 91 hS0 ?_
        try simp only [Act.put, pkA, pkB, pkC]
        refine pkT 6 92 hS0 ?_
        try simp only [Act.put, pkA, pkB, pkC]
        refine pkT 7 93 hS0 ?_
        try simp only [Act.put, pkA, pkB, pkC]
        refine pkT 8 15 hS0 ?_
        try simp only [Act.put, pkA, pkB, pkC]
        refine wpAnyH_done (by kernel_rfl) ?_ _
        have HB10 := Lib.hid (And.intro hS0 (HB8.out.trans (Below.mono hS0 HB8.out.size)))
        clear hS0
        by_cases h5 : 10000 ≤ M2
        · have hZ2 : X - (Qn + 1) = Z := by have := HNz.out.2.1 h5; have := HNz.out.1; omega
          have w7a : IntKind.i64.wrap (X - (Qn + 1)) = Z := by rw [hZ2]; exact IntWalk.i64_in _ (by have := HNz.out; omega)
          have w7b : wrap64 (X - (Qn + 1)) = Z := by rw [hZ2]; exact IntWalk.wrap64_in _ (by have := HNz.out; omega)
          clear hZ2
          go_wp2_with fail
          refine wp_region_held_drew (S := fun u => Below w8.heap.size w8 u) (by kernel_rfl) (HB10.out.1.drew) (fun hS0 => ?_)
          refine pkT 0 102 hS0 ?_
          try simp only [Act.put, pkA, pkB, pkC]
          refine pkT 1 103 hS0 ?_
          try simp only [Act.put, pkA, pkB, pkC]
          refine pkT 2 104 hS0 ?_
          try simp only [Act.put, pkA, pkB, pkC]
          refine pkT 3 105 hS0 ?_
          try simp only [Act.put, pkA, pkB, pkC]
          refine pkT 4 106 hS0 ?_
          try simp only [Act.put, pkA, pkB, pkC]
          refine pkT 5 107 hS0 ?_
          try simp only [Act.put, pkA, pkB, pkC]
          refine pkT 6 108 hS0 ?_
          try simp only [Act.put, pkA, pkB, pkC]
          refine pkT 7 109 hS0 ?_
          try simp only [Act.put, pkA, pkB, pkC]
          refine pkT 8 110 hS0 ?_
          try simp only [Act.put, pkA, pkB, pkC]
          refine pkT 9 111 hS0 ?_
          try simp only [Act.put, pkA, pkB, pkC]
          refine pkT 10 112 hS0 ?_
          try simp only [Act.put, pkA, pkB, pkC]
          refine pkT 11 113 hS0 ?_
          try simp only [Act.put, pkA, pkB, pkC]
          refine pkT 12 114 hS0 ?_
          try simp only [Act.put, pkA, pkB, pkC]
          refine pkT 13 8 hS0 ?_
          try simp only [Act.put, pkA, pkB, pkC]
          refine wpAnyH_done (by kernel_rfl) ?_ _
          have HB11 := Lib.hid (HB8.out.trans (Below.mono hS0 HB8.out.size))
          clear hS0
          go_wp2_with fail
          go_ret
          exact ⟨rfl, HB11.out⟩
        · have hZ2 : X - Qn = Z := by have := HNz.out.2.2.1 (by omega); have := HNz.out.1; omega
          have w7a : IntKind.i64.wrap (X - Qn) = Z := by rw [hZ2]; exact IntWalk.i64_in _ (by have := HNz.out; omega)
          have w7b : wrap64 (X - Qn) = Z := by rw [hZ2]; exact IntWalk.wrap64_in _ (by have := HNz.out; omega)
          clear hZ2
          go_wp2_with fail
          refine wp_region_held_drew (S := fun u => Below w8.heap.size w8 u) (by kernel_rfl) (HB10.out.1.drew) (fun hS0 => ?_)
          refine pkT 0 102 hS0 ?_
          try simp only [Act.put, pkA, pkB, pkC]
          refine pkT 1 103 hS0 ?_
          try simp only [Act.put, pkA, pkB, pkC]
          refine pkT 2 104 hS0 ?_
          try simp only [Act.put, pkA, pkB, pkC]
          refine pkT 3 105 hS0 ?_
          try simp only [Act.put, pkA, pkB, pkC]
          refine pkT 4 106 hS0 ?_
          try simp only [Act.put, pkA, pkB, pkC]
          refine pkT 5 107 hS0 ?_
          try simp only [Act.put, pkA, pkB, pkC]
          refine pkT 6 108 hS0 ?_
          try simp only [Act.put, pkA, pkB, pkC]
          refine pkT 7 109 hS0 ?_
          try simp only [Act.put, pkA, pkB, pkC]
          refine pkT 8 110 hS0 ?_
          try simp only [Act.put, pkA, pkB, pkC]
          refine pkT 9 111 hS0 ?_
          try simp only [Act.put, pkA, pkB, pkC]
          refine pkT 10 112 hS0 ?_
          try simp only [Act.put, pkA, pkB, pkC]
          refine pkT 11 113 hS0 ?_
          try simp only [Act.put, pkA, pkB, pkC]
          refine pkT 12 114 hS0 ?_
          try simp only [Act.put, pkA, pkB, pkC]
          refine pkT 13 8 hS0 ?_
          try simp only [Act.put, pkA, pkB, pkC]
          refine wpAnyH_done (by kernel_rfl) ?_ _
          have HB11 := Lib.hid (HB8.out.trans (Below.mono hS0 HB8.out.size))
          clear hS0
          go_wp2_with fail
          go_ret
          exact ⟨rfl, HB11.out⟩
set_option maxHeartbeats 16000000 in
theorem walk_false (w : World) (p : Prm) (l : Prm.Lay) (hP : Ap.Prm.Holds w (· < w.heap.size) p l) (A : Option Addr) (n c : Nat) (us : List Unt) (hU : Row kUnt w (· < w.heap.size) A n us) (hfU : Kd.Fit A n c) (at_ : Int) (wat : (Lit.int .i64 at_).wf = true) :
    Calls Try.prog 4 #[.agg #[.string p.id, .int .i64 p.kind, .int .i64 p.priority, .string p.group, .string p.code, .bool p.closes, .slice l.scope.skus.A l.scope.skus.n l.scope.skus.c, .slice l.scope.cats.A l.scope.cats.n l.scope.cats.c, .int .i64 p.least, .int .i64 p.rate, .int .i64 p.amount, .int .i64 p.buy, .int .i64 p.get, .slice l.parts.A l.parts.n l.parts.c, .slice l.tiers.A l.tiers.n l.tiers.c], .slice A n c, .bool false, .int .i64 at_] w fun e w' => e = .returned (.bool true) ∧ Below w.heap.size w w' := by
  obtain ⟨W1, hW1⟩ : ∃ W1, w.alloc (.cells #[.string p.id, .int .i64 p.kind, .int .i64 p.priority, .string p.group, .string p.code, .bool p.closes, .slice l.scope.skus.A l.scope.skus.n l.scope.skus.c, .slice l.scope.cats.A l.scope.cats.n l.scope.cats.c, .int .i64 p.least, .int .i64 p.rate, .int .i64 p.amount, .int .i64 p.buy, .int .i64 p.get, .slice l.parts.A l.parts.n l.parts.c, .slice l.tiers.A l.tiers.n l.tiers.c] 28) = W1 := ⟨_, rfl⟩
  have hb1 : Below w.heap.size w W1 := by rw [← hW1]; exact (Below.refl _ _).alloc (Nat.le_refl _) _
  have hx1 : Qu.Blk W1 w.heap.size 28 #[.string p.id, .int .i64 p.kind, .int .i64 p.priority, .string p.group, .string p.code, .bool p.closes, .slice l.scope.skus.A l.scope.skus.n l.scope.skus.c, .slice l.scope.cats.A l.scope.cats.n l.scope.cats.c, .int .i64 p.least, .int .i64 p.rate, .int .i64 p.amount, .int .i64 p.buy, .int .i64 p.get, .slice l.parts.A l.parts.n l.parts.c, .slice l.tiers.A l.tiers.n l.tiers.c] := by rw [← hW1]; exact Qu.Blk.new w _ _
  have HFw := Lib.hid (few_any p l A n c W1 (Pr.holds_later hP hb1))
  have HB1 := Lib.hid hb1
  have x0 := hx1.cell 0
  have x1 := hx1.cell 1
  have x2 := hx1.cell 2
  have x3 := hx1.cell 3
  have x4 := hx1.cell 4
  have x5 := hx1.cell 5
  have x6 := hx1.cell 6
  have x7 := hx1.cell 7
  have x8 := hx1.cell 8
  have x9 := hx1.cell 9
  have x10 := hx1.cell 10
  have x11 := hx1.cell 11
  have x12 := hx1.cell 12
  have x13 := hx1.cell 13
  have x14 := hx1.cell 14
  have HX := Lib.hid hx1
  have HP := Lib.hid hP
  have HU := Lib.hid hU
  have HVs := Lib.hid (unitsOf_may us)
  clear hx1 hb1 hP hU hfU
  go_enter Try.func4, Try.ntmps4
  go_wp2_with fail
  clear hW1
  refine HFw.out.mono ?_
  rintro e w2 ⟨b, rfl, hfew, hb2⟩
  clear x0 x1 x2 x3 x4 x5 x6 x7 x8 x9 x10 x11 x12 x13 x14
  cases b with
  | false =>
    clear hfew HFw HX HP HU HVs
    have HA := Lib.hid (awake_any w2)
    have HB := Lib.hid (HB1.out.trans (hb2.mono HB1.out.size))
    go_wp2_with fail
    refine HA.out.mono ?_
    rintro e w3 ⟨rfl, hb3⟩
    have HB3 := Lib.hid (HB.out.trans (hb3.mono HB.out.size))
    clear hb3
    go_wp2
    go_ret
    exact ⟨rfl, HB3.out⟩
  | true =>
      have hfw := hfew rfl
      have hn2 : n ≤ 200 := hfw.units
      have HS := Lib.hid (small_of HP.out hfw.skus hfw.cats hfw.parts hfw.tiers)
      have HX2 := Lib.hid (HX.out.below hb2)
      have HB2 := Lib.hid (HB1.out.trans (hb2.mono HB1.out.size))
      obtain ⟨vs, hvs⟩ : ∃ vs, unitsOf us = vs := ⟨_, rfl⟩
      have HVo := Lib.hid hvs
      have hk60 : vs.length ≤ 60 := by rw [← hvs]; exact unitsOf_length us
      obtain ⟨k, hk⟩ : ∃ k, vs.length = k := ⟨_, rfl⟩
      rw [hk] at hk60
      rw [hvs] at HVs
      have y1 := HX2.out.cell 1
      have yf := HX2.out.frozen 1
      clear hfew hfw hb2 HFw HX HB1
      obtain ⟨W3, hW3⟩ : ∃ W3, (w2.setCell ⟨w.heap.size, 1, none⟩ (.int .i64 2)) = W3 := ⟨_, rfl⟩
      have hz3 : Qu.Blk W3 w.heap.size 28 #[.string p.id, .int .i64 2, .int .i64 p.priority, .string p.group, .string p.code, .bool p.closes, .slice l.scope.skus.A l.scope.skus.n l.scope.skus.c, .slice l.scope.cats.A l.scope.cats.n l.scope.cats.c, .int .i64 p.least, .int .i64 p.rate, .int .i64 p.amount, .int .i64 p.buy, .int .i64 p.get, .slice l.parts.A l.parts.n l.parts.c, .slice l.tiers.A l.tiers.n l.tiers.c] := by rw [← hW3]; exact HX2.out.put 1 _
      have hb3 : Below w.heap.size w W3 := by rw [← hW3]; exact HB2.out.setCell (Nat.le_refl _) _
      have hlt3 := hz3.lt
      have HLt := Lib.hid hlt3
      have HB3 := Lib.hid hb3
      have hz0 := hz3.drew
      have hpk : Ap.Prm.Holds W3 (· < w.heap.size) (withKind p 2) l := by
        have h9 := holds_in HP.out hb3
        exact ⟨h9.id, by show (-9223372036854775808 : Int) ≤ 2 ∧ (2 : Int) ≤ 9223372036854775807; omega, h9.priority, h9.group, h9.code, h9.scope, h9.least, h9.rate, h9.amount, h9.buy, h9.get, h9.parts, h9.tiers⟩
      have HSk : Hid (Pr.PrmSmall (withKind p 2) l) := Lib.hid ⟨HS.out.scope, HS.out.parts, HS.out.np, HS.out.nt, HS.out.few⟩
      have hPr := fun (u : World) (hu : Mv.Only W3 u (Mv.one w.heap.size)) => near2_any (withKind p 2) l u (holds_only hpk hlt3 hu) HSk.out
      have hkind := near_kind (p := p) (z := 2) (by omega)
      obtain ⟨q, hq⟩ : ∃ q, Py.nearP (withKind p 2) 1 = q := ⟨_, rfl⟩
      rw [hq] at hkind
      simp only [hq] at hPr
      unfold MadeN at hPr
      have HKq := Lib.hid hkind
      have HPr : Hid (∀ (u : World), Mv.Only W3 u (Mv.one w.heap.size) → Calls Try.prog 13 #[.agg #[.string p.id, .int .i64 2, .int .i64 p.priority, .string p.group, .string p.code, .bool p.closes, .slice l.scope.skus.A l.scope.skus.n l.scope.skus.c, .slice l.scope.cats.A l.scope.cats.n l.scope.cats.c, .int .i64 p.least, .int .i64 p.rate, .int .i64 p.amount, .int .i64 p.buy, .int .i64 p.get, .slice l.parts.A l.parts.n l.parts.c, .slice l.tiers.A l.tiers.n l.tiers.c], .int .i64 1] u fun e w' => ∃ m : Prm.Lay, e = .returned (.agg #[.string q.id, .int .i64 q.kind, .int .i64 q.priority, .string q.group, .string q.code, .bool q.closes, .slice m.scope.skus.A m.scope.skus.n m.scope.skus.c, .slice m.scope.cats.A m.scope.cats.n m.scope.cats.c, .int .i64 q.least, .int .i64 q.rate, .int .i64 q.amount, .int .i64 q.buy, .int .i64 q.get, .slice m.parts.A m.parts.n m.parts.c, .slice m.tiers.A m.tiers.n m.tiers.c]) ∧ Pr.promoB q = true ∧ (q.scope.skus.length ≤ 8 ∧ q.scope.cats.length ≤ 8 ∧ q.tiers.length ≤ 6 ∧ q.parts.length ≤ 3) ∧ Py.Anew u w' q m) := Lib.hid hPr
      have hUn := fun (u : World) (hu : Mv.Only W3 u (Mv.one w.heap.size)) => units_any A n c us u (((HU.out.below hb3 (Nat.le_refl _)).stay (fun b hb => hu.block b (by omega) fun e => by have : b = w.heap.size := e; omega)).more (fun b hb => by have := hu.size; omega)) (by omega)
      unfold Ko.Told at hUn
      simp only [hvs, hk] at hUn
      have HUn := Lib.hid hUn
      have x0 := hz3.cell 0
      have x1 := hz3.cell 1
      have x2 := hz3.cell 2
      have x3 := hz3.cell 3
      have x4 := hz3.cell 4
      have x5 := hz3.cell 5
      have x6 := hz3.cell 6
      have x7 := hz3.cell 7
      have x8 := hz3.cell 8
      have x9 := hz3.cell 9
      have x10 := hz3.cell 10
      have x11 := hz3.cell 11
      have x12 := hz3.cell 12
      have x13 := hz3.cell 13
      have x14 := hz3.cell 14
      have HW3 := Lib.hid hW3
      clear hb3 hlt3 hpk hPr hkind hq hUn hz3 hvs hk hW3
      go_upto_region 6 with (fail)
      rw [HW3.out]
      go_cut [1] from 25 to 28 (fun s1 wx => ∃ (A3 : Option Addr) (c3 : Nat) (m : Prm.Lay), s1 = .slice A3 k c3 ∧ Hid (Turned w wx A3 k c3 vs q m ∧ Pr.promoB q = true ∧ (q.scope.skus.length ≤ 8 ∧ q.scope.cats.length ≤ 8 ∧ q.tiers.length ≤ 6 ∧ q.parts.length ≤ 3)))
      case first =>
        refine wp_region_held_drew (S := fun u => Mv.Only W3 u (Mv.one w.heap.size)) (by kernel_rfl) ((Mv.Only.refl W3 _).drew) (fun hS0 => ?_)
        refine pkT 0 25 hS0 ?_
        try simp only [Act.put, pkA, pkB, pkC]
        refine wpAnyH_ready (rs := [1, 2]) (by kernel_rfl) (by simp) ?_
        refine AllReadyH.cons (o := ⟨some 26, _, _, _, _, _⟩) rfl (fun K hK => ?_) ?_
        ·
          go_simp
          refine (HUn.out _ hS0).mono ?_
          rintro e wU ⟨A3, c3, rfl, hoU, hbU⟩
          have hyU : Mv.Only W3 wU (Mv.one w.heap.size) := Mv.Only.below hS0 hbU
          have hzU : Qu.Blk wU w.heap.size 28 #[.string p.id, .int .i64 2, .int .i64 p.priority, .string p.group, .string p.code, .bool p.closes, .slice l.scope.skus.A l.scope.skus.n l.scope.skus.c, .slice l.scope.cats.A l.scope.cats.n l.scope.cats.c, .int .i64 p.least, .int .i64 p.rate, .int .i64 p.amount, .int .i64 p.buy, .int .i64 p.get, .slice l.parts.A l.parts.n l.parts.c, .slice l.tiers.A l.tiers.n l.tiers.c] := (by first | exact hzP.below hbU | exact hz0.below hbU)
          have zU0 := hzU.cell 0
          have zU1 := hzU.cell 1
          have zU2 := hzU.cell 2
          have zU3 := hzU.cell 3
          have zU4 := hzU.cell 4
          have zU5 := hzU.cell 5
          have zU6 := hzU.cell 6
          have zU7 := hzU.cell 7
          have zU8 := hzU.cell 8
          have zU9 := hzU.cell 9
          have zU10 := hzU.cell 10
          have zU11 := hzU.cell 11
          have zU12 := hzU.cell 12
          have zU13 := hzU.cell 13
          have zU14 := hzU.cell 14
          have zUf := hzU.frozen
          go_wp2_with fail
          refine hK.out _ _ (hyU) (fun hS1 => ?_)
          clear hK K
          try simp only [Act.put, pkA, pkB, pkC]
          refine wpAnyH_ready (rs := [2]) (by kernel_rfl) (by simp) ?_
          refine AllReadyH.cons (o := ⟨some 27, _, _, _, _, _⟩) rfl (fun K hK => ?_) AllReadyH.nil
          go_simp
          refine hK.out _ _ (hS1) (fun hS2 => ?_)
          clear hK K
          try simp only [Act.put, pkA, pkB, pkC]
          refine wpAnyH_ready (rs := [3]) (by kernel_rfl) (by simp) ?_
          refine AllReadyH.cons (o := ⟨some 28, _, _, _, _, _⟩) rfl (fun K hK => ?_) AllReadyH.nil
          go_simp
          refine (HPr.out _ hS2).mono ?_
          rintro e wP ⟨m, rfl, hmP, hfP, haP⟩
          have hyP : Mv.Only W3 wP (Mv.one w.heap.size) := Mv.Only.below hS2 haP.below
          have hzP : Qu.Blk wP w.heap.size 28 #[.string p.id, .int .i64 2, .int .i64 p.priority, .string p.group, .string p.code, .bool p.closes, .slice l.scope.skus.A l.scope.skus.n l.scope.skus.c, .slice l.scope.cats.A l.scope.cats.n l.scope.cats.c, .int .i64 p.least, .int .i64 p.rate, .int .i64 p.amount, .int .i64 p.buy, .int .i64 p.get, .slice l.parts.A l.parts.n l.parts.c, .slice l.tiers.A l.tiers.n l.tiers.c] := (by first | exact hzU.below haP.below | exact hz0.below haP.below)
          have zP0 := hzP.cell 0
          have zP1 := hzP.cell 1
          have zP2 := hzP.cell 2
          have zP3 := hzP.cell 3
          have zP4 := hzP.cell 4
          have zP5 := hzP.cell 5
          have zP6 := hzP.cell 6
          have zP7 := hzP.cell 7
          have zP8 := hzP.cell 8
          have zP9 := hzP.cell 9
          have zP10 := hzP.cell 10
          have zP11 := hzP.cell 11
          have zP12 := hzP.cell 12
          have zP13 := hzP.cell 13
          have zP14 := hzP.cell 14
          have zPf := hzP.frozen
          go_wp2_with fail
          refine hK.out _ _ (hyP) (fun hS3 => ?_)
          clear hK K
          try simp only [Act.put, pkA, pkB, pkC]
          refine pkT 4 1 hS3 ?_
          try simp only [Act.put, pkA, pkB, pkC]
          refine wpAnyH_ready (rs := [5]) (by kernel_rfl) (by simp) ?_
          refine AllReadyH.cons (o := ⟨none, _, _, _, _, _⟩) rfl (fun K hK => ?_) AllReadyH.nil
          go_simp
          refine hK.out _ _ (Py.only_puts (q.enc m) _ 0 hS3) (fun hS4 => ?_)
          clear hK K
          try simp only [Act.put, pkA, pkB, pkC]
          refine wpAnyH_done (by kernel_rfl) ?_ _
          go_wp2_with fail
          go_meet
          first | exact ⟨A3, c3, m, rfl, Lib.hid ⟨turned_in (hoU.later haP.below) HLt.out haP hzU.lt hzP ⟨_, _, _, _, _, _, _, _, _, _, _, _, _, _, _, rfl⟩ (HB3.out.trans (hyP.toBelow (Nat.le_of_lt HLt.out) fun j hj e => by have : j = w.heap.size := e; omega)) rfl, hmP, hfP⟩⟩ | exact ⟨A3, c3, m, rfl, Lib.hid ⟨turned_in hoU hzP.lt (anew_on haP hbU) HLt.out hzU ⟨_, _, _, _, _, _, _, _, _, _, _, _, _, _, _, rfl⟩ (HB3.out.trans (hyU.toBelow (Nat.le_of_lt HLt.out) fun j hj e => by have : j = w.heap.size := e; omega)) rfl, hmP, hfP⟩⟩
        refine AllReadyH.cons (o := ⟨some 27, _, _, _, _, _⟩) rfl (fun K hK => ?_) AllReadyH.nil
        go_simp
        refine hK.out _ _ (hS0) (fun hS1 => ?_)
        clear hK K
        try simp only [Act.put, pkA, pkB, pkC]
        refine wpAnyH_ready (rs := [1]) (by kernel_rfl) (by simp) ?_
        refine AllReadyH.cons (o := ⟨some 26, _, _, _, _, _⟩) rfl (fun K hK => ?_) AllReadyH.nil
        go_simp
        refine (HUn.out _ hS1).mono ?_
        rintro e wU ⟨A3, c3, rfl, hoU, hbU⟩
        have hyU : Mv.Only W3 wU (Mv.one w.heap.size) := Mv.Only.below hS1 hbU
        have hzU : Qu.Blk wU w.heap.size 28 #[.string p.id, .int .i64 2, .int .i64 p.priority, .string p.group, .string p.code, .bool p.closes, .slice l.scope.skus.A l.scope.skus.n l.scope.skus.c, .slice l.scope.cats.A l.scope.cats.n l.scope.cats.c, .int .i64 p.least, .int .i64 p.rate, .int .i64 p.amount, .int .i64 p.buy, .int .i64 p.get, .slice l.parts.A l.parts.n l.parts.c, .slice l.tiers.A l.tiers.n l.tiers.c] := (by first | exact hzP.below hbU | exact hz0.below hbU)
        have zU0 := hzU.cell 0
        have zU1 := hzU.cell 1
        have zU2 := hzU.cell 2
        have zU3 := hzU.cell 3
        have zU4 := hzU.cell 4
        have zU5 := hzU.cell 5
        have zU6 := hzU.cell 6
        have zU7 := hzU.cell 7
        have zU8 := hzU.cell 8
        have zU9 := hzU.cell 9
        have zU10 := hzU.cell 10
        have zU11 := hzU.cell 11
        have zU12 := hzU.cell 12
        have zU13 := hzU.cell 13
        have zU14 := hzU.cell 14
        have zUf := hzU.frozen
        go_wp2_with fail
        refine hK.out _ _ (hyU) (fun hS2 => ?_)
        clear hK K
        try simp only [Act.put, pkA, pkB, pkC]
        refine wpAnyH_ready (rs := [3]) (by kernel_rfl) (by simp) ?_
        refine AllReadyH.cons (o := ⟨some 28, _, _, _, _, _⟩) rfl (fun K hK => ?_) AllReadyH.nil
        go_simp
        refine (HPr.out _ hS2).mono ?_
        rintro e wP ⟨m, rfl, hmP, hfP, haP⟩
        have hyP : Mv.Only W3 wP (Mv.one w.heap.size) := Mv.Only.below hS2 haP.below
        have hzP : Qu.Blk wP w.heap.size 28 #[.string p.id, .int .i64 2, .int .i64 p.priority, .string p.group, .string p.code, .bool p.closes, .slice l.scope.skus.A l.scope.skus.n l.scope.skus.c, .slice l.scope.cats.A l.scope.cats.n l.scope.cats.c, .int .i64 p.least, .int .i64 p.rate, .int .i64 p.amount, .int .i64 p.buy, .int .i64 p.get, .slice l.parts.A l.parts.n l.parts.c, .slice l.tiers.A l.tiers.n l.tiers.c] := (by first | exact hzU.below haP.below | exact hz0.below haP.below)
        have zP0 := hzP.cell 0
        have zP1 := hzP.cell 1
        have zP2 := hzP.cell 2
        have zP3 := hzP.cell 3
        have zP4 := hzP.cell 4
        have zP5 := hzP.cell 5
        have zP6 := hzP.cell 6
        have zP7 := hzP.cell 7
        have zP8 := hzP.cell 8
        have zP9 := hzP.cell 9
        have zP10 := hzP.cell 10
        have zP11 := hzP.cell 11
        have zP12 := hzP.cell 12
        have zP13 := hzP.cell 13
        have zP14 := hzP.cell 14
        have zPf := hzP.frozen
        go_wp2_with fail
        refine hK.out _ _ (hyP) (fun hS3 => ?_)
        clear hK K
        try simp only [Act.put, pkA, pkB, pkC]
        refine pkT 4 1 hS3 ?_
        try simp only [Act.put, pkA, pkB, pkC]
        refine wpAnyH_ready (rs := [5]) (by kernel_rfl) (by simp) ?_
        refine AllReadyH.cons (o := ⟨none, _, _, _, _, _⟩) rfl (fun K hK => ?_) AllReadyH.nil
        go_simp
        refine hK.out _ _ (Py.only_puts (q.enc m) _ 0 hS3) (fun hS4 => ?_)
        clear hK K
        try simp only [Act.put, pkA, pkB, pkC]
        refine wpAnyH_done (by kernel_rfl) ?_ _
        go_wp2_with fail
        go_meet
        first | exact ⟨A3, c3, m, rfl, Lib.hid ⟨turned_in (hoU.later haP.below) HLt.out haP hzU.lt hzP ⟨_, _, _, _, _, _, _, _, _, _, _, _, _, _, _, rfl⟩ (HB3.out.trans (hyP.toBelow (Nat.le_of_lt HLt.out) fun j hj e => by have : j = w.heap.size := e; omega)) rfl, hmP, hfP⟩⟩ | exact ⟨A3, c3, m, rfl, Lib.hid ⟨turned_in hoU hzP.lt (anew_on haP hbU) HLt.out hzU ⟨_, _, _, _, _, _, _, _, _, _, _, _, _, _, _, rfl⟩ (HB3.out.trans (hyU.toBelow (Nat.le_of_lt HLt.out) fun j hj e => by have : j = w.heap.size := e; omega)) rfl, hmP, hfP⟩⟩
      case rest =>
        obtain ⟨A3, c3, m, rfl, HT⟩ := hcut
        clear x0 x1 x2 x3 x4 x5 x6 x7 x8 x9 x10 x11 x12 x13 x14 hz0 HPr HUn HSk HLt HB3 HW3 HX2 HB2
        have hx := HT.out.1.blk
        have x5 := hx.cell 5
        have xf := hx.frozen 5
        obtain ⟨W4, hW4⟩ : ∃ W4, wc.setCell ⟨w.heap.size, 5, none⟩ (.bool false) = W4 := ⟨_, rfl⟩
        have hT4 : Turned w W4 A3 k c3 vs (withCloses q false) m := by rw [← hW4]; exact HT.out.1.put false
        have hmay := closes_may HT.out.2.1 (by have := HKq.out; omega) false
        have hkd : (withCloses q false).kind = 2 := HKq.out
        have HSq : Hid (Pr.PrmSmall (withCloses q false) m) := Lib.hid (small_of hT4.all (by have := HT.out.2.2; show q.scope.skus.length ≤ 40; omega) (by have := HT.out.2.2; show q.scope.cats.length ≤ 40; omega) (by have := HT.out.2.2; show q.parts.length ≤ 20; omega) (by have := HT.out.2.2; show q.tiers.length ≤ 20; omega))
        obtain ⟨Q, hQ⟩ : ∃ Q, withCloses q false = Q := ⟨_, rfl⟩
        have hcl : Q.closes = false := by rw [← hQ]; rfl
        rw [hQ] at hT4 hmay hkd HSq
        have HT4 := Lib.hid hT4
        have HQ := Lib.hid (And.intro hmay (And.intro hkd hcl))
        have H5 := mine_any A3 k c3 vs 9223372036854775807 W4 hT4.urow (by omega) (by decide) (by decide)
        unfold Ko.Told at H5
        have hpl : (mineL 9223372036854775807 vs).length ≤ 60 := by have := mineFrom_length 9223372036854775807 0 vs; have := HT.out.1.row.len; unfold mineL; omega
        have hpm := mine_may 9223372036854775807 vs
        obtain ⟨ps, hps⟩ : ∃ ps, mineL 9223372036854775807 vs = ps := ⟨_, rfl⟩
        rw [hps] at H5 hpl hpm
        obtain ⟨j, hj⟩ : ∃ j, ps.length = j := ⟨_, rfl⟩
        simp only [hj] at H5
        rw [hj] at hpl
        have HMy := Lib.hid (And.intro (May.mk HVs.out hpm) hj)
        have H5h := Lib.hid H5
        have HW4 := Lib.hid hW4
        clear hT4 hmay hkd hcl hQ hx H5 hps hj hW4 hpm
        go_upto_region 8 with (fail)
        rw [HW4.out]
        clear HW4 x5 xf HT
        go_wp2_with fail
        refine H5h.out.mono ?_
        rintro e w5 ⟨A5, c5, rfl, ho5, hb5⟩
        have HT5 := Lib.hid (HT4.out.on hb5)
        have HM5 := Lib.hid ho5.read
        clear hb5 ho5 H5h HT4
        by_cases hj0 : j = 0
        · subst hj0
          have HA := Lib.hid (awake_any w5)
          go_wp2_with fail
          refine HA.out.mono ?_
          rintro e w6 ⟨rfl, hb6⟩
          have HB6 := Lib.hid (HT5.out.below.trans (hb6.mono HT5.out.below.size))
          clear hb6
          go_wp2
          go_ret
          exact ⟨rfl, HB6.out⟩
        have b0 : ((j : Int) == 0) = false := by rw [beq_eq_false_iff_ne]; omega
        have hj1 : 1 ≤ j := by omega
        have hfit := HT5.out.fit
        have H6 := lapply_any Q m A3 k c3 vs A5 j c5 ps w5 HT5.out.all HSq.out HT5.out.urow hfit HM5.out (by omega) (by omega)
        unfold Ko.Told2 at H6
        have hylen := applyU_length Q vs ps
        have hone := fun (i : Nat) (x : Int) (u : Unt) (h1 : ps[i]? = some x) (h2 : vs[x.toNat]? = some u) => apply_one HQ.out.1 (by have := HQ.out.2.1; omega) HQ.out.2.2 HMy.out.1 h1 h2
        obtain ⟨ys, hys⟩ : ∃ ys, (applyU Q vs ps).1 = ys := ⟨_, rfl⟩
        obtain ⟨z, hz⟩ : ∃ z, (applyU Q vs ps).2 = z := ⟨_, rfl⟩
        simp only [hys, hz] at H6 hone
        rw [hys, HT5.out.row.len] at hylen
        simp only [hylen] at H6
        have H6h := Lib.hid H6
        have HOne := Lib.hid hone
        have x0 := HT5.out.blk.cell 0
        have x1 := HT5.out.blk.cell 1
        have x2 := HT5.out.blk.cell 2
        have x3 := HT5.out.blk.cell 3
        have x4 := HT5.out.blk.cell 4
        have x5 := HT5.out.blk.cell 5
        have x6 := HT5.out.blk.cell 6
        have x7 := HT5.out.blk.cell 7
        have x8 := HT5.out.blk.cell 8
        have x9 := HT5.out.blk.cell 9
        have x10 := HT5.out.blk.cell 10
        have x11 := HT5.out.blk.cell 11
        have x12 := HT5.out.blk.cell 12
        have x13 := HT5.out.blk.cell 13
        have x14 := HT5.out.blk.cell 14
        clear H6 hone hys hz hj0 hylen hfit
        go_wp2_with fail
        refine H6h.out.mono ?_
        rintro e w6 ⟨A6, c6, rfl, ho6, hb6⟩
        clear x0 x1 x2 x3 x4 x5 x6 x7 x8 x9 x10 x11 x12 x13 x14
        have HT6 := Lib.hid (HT5.out.on hb6)
        have HM6 := Lib.hid (row_on HM5.out hb6)
        have HR6 := Lib.hid ho6.read
        have hr := Py.modN_lt at_ (j : Int) (by omega)
        have H7 := fun W => Py.mod_any at_ (j : Int) W (by omega) (by omega)
        obtain ⟨r, hr2⟩ : ∃ r, Py.modN at_ (j : Int) = r := ⟨_, rfl⟩
        rw [hr2] at hr H7
        obtain ⟨x, hx⟩ := HM6.out.get (show r < j by omega)
        obtain ⟨xx0, u, hu, hop⟩ := HMy.out.1.places.at_ r x hx
        obtain ⟨t, ht⟩ : ∃ t : Nat, x = (t : Int) := ⟨x.toNat, by omega⟩
        subst ht
        have hya := HOne.out r (t : Int) u hx hu
        rw [Int.toNat_natCast] at hu hya
        have htk : t < k := by have := (List.getElem?_eq_some_iff.1 hu).1; have := HT5.out.row.len; omega
        obtain ⟨g5, o5, rfl, _, _, _, m0⟩ := row_int HM6.out hx
        have HUu := Lib.hid (And.intro hu (And.intro hop hya))
        have r0 : (0 : Int) ≤ (r : Int) := by omega
        have r1 : (r : Int) < (j : Int) := by omega
        have t0 : (0 : Int) ≤ (t : Int) := by omega
        have t1 : (t : Int) < (k : Int) := by omega
        have htb : -9223372036854775808 ≤ (t : Int) ∧ (t : Int) ≤ 9223372036854775807 := by omega
        obtain ⟨W7, hW7⟩ : ∃ W7, w6.alloc (.cells #[.int .i64 (t : Int)] 3) = W7 := ⟨_, rfl⟩
        have hb7 : Below w6.heap.size w6 W7 := by rw [← hW7]; exact (Below.refl _ _).alloc (Nat.le_refl _) _
        have hm7 : Qu.Blk W7 w6.heap.size 3 #[.int .i64 (t : Int)] := by rw [← hW7]; exact Qu.Blk.new w6 _ _
        have hT7 := HT6.out.on hb7
        have hmy7 := one_may HVs.out hu hop
        have H8 := lapply_any Q m A3 k c3 vs (some ⟨w6.heap.size, 0, none⟩) 1 1 [(t : Int)] W7 hT7.all HSq.out hT7.urow hT7.fit (one_int htb hm7) (by omega) (by omega)
        unfold Ko.Told2 at H8
        have hylen2 := applyU_length Q vs [(t : Int)]
        have hyb := apply_one HQ.out.1 (by have := HQ.out.2.1; omega) HQ.out.2.2 hmy7 (j := 0) (m := (t : Int)) (u := u) rfl (by rw [Int.toNat_natCast]; exact hu)
        rw [Int.toNat_natCast] at hyb
        obtain ⟨zs, hzs⟩ : ∃ zs, (applyU Q vs [(t : Int)]).1 = zs := ⟨_, rfl⟩
        obtain ⟨z2, hz2⟩ : ∃ z2, (applyU Q vs [(t : Int)]).2 = z2 := ⟨_, rfl⟩
        simp only [hzs, hz2] at H8 hyb
        rw [hzs, HT5.out.row.len] at hylen2
        simp only [hylen2] at H8
        have H8h := Lib.hid H8
        have HYb := Lib.hid hyb
        have HT7 := Lib.hid hT7
        have HR7 := Lib.hid (row_on HR6.out hb7)
        have HB67 := Lib.hid hb7
        have HW7 := Lib.hid hW7
        have H7h := Lib.hid (H7 w6)
        have x0 := HT6.out.blk.cell 0
        have x1 := HT6.out.blk.cell 1
        have x2 := HT6.out.blk.cell 2
        have x3 := HT6.out.blk.cell 3
        have x4 := HT6.out.blk.cell 4
        have x5 := HT6.out.blk.cell 5
        have x6 := HT6.out.blk.cell 6
        have x7 := HT6.out.blk.cell 7
        have x8 := HT6.out.blk.cell 8
        have x9 := HT6.out.blk.cell 9
        have x10 := HT6.out.blk.cell 10
        have x11 := HT6.out.blk.cell 11
        have x12 := HT6.out.blk.cell 12
        have x13 := HT6.out.blk.cell 13
        have x14 := HT6.out.blk.cell 14
        clear ho6 hb6 H6h H7 H8 hya hu hop hx hr hr2 hm7 hb7 hT7 hmy7 hyb hzs hz2 hylen2 hW7 xx0 HOne htb HT5
        go_wp2_with fail
        refine H7h.out.mono ?_
        rintro e wz ⟨rfl, hw⟩
        obtain rfl := hw.symm
        clear H7h
        go_upto_region 13 with (fail)
        go_wp2_with fail
        rw [HW7.out]
        refine H8h.out.mono ?_
        rintro e w8 ⟨A8, c8, rfl, ho8, hb8⟩
        clear x0 x1 x2 x3 x4 x5 x6 x7 x8 x9 x10 x11 x12 x13 x14 m0
        have HT8 := Lib.hid (HT7.out.on hb8)
        have HR68 := Lib.hid (row_on HR7.out hb8)
        have HR8 := Lib.hid ho8.read
        clear ho8 hb8 H8h HT7 HR7 HB67 HW7 HM6 HM5 HR6 HT6
        obtain ⟨g6, o6, rfl, hg6, _, _, p0, p1, p2⟩ := row_Unt HR68.out HUu.out.2.2
        obtain ⟨g8, o8, rfl, hg8, _, _, s0, s1, s2⟩ := row_Unt HR8.out HYb.out
        obtain ⟨g3, o3, rfl, hg3, _, _, v0, v1, v2⟩ := row_Unt HT8.out.urow HUu.out.1
        have hbx := HT8.out.blk
        obtain ⟨Z, hZ⟩ : ∃ Z, u.net - offOne Q u.net = Z := ⟨_, rfl⟩
        simp only [hZ] at p1 s1
        have cp0 : ∀ W, Below w8.heap.size w8 W → W.cell? ⟨g6, o6 + t * 3, none⟩ = some (.int .i64 u.line) := fun W h => (h.cell (p := ⟨g6, _, none⟩) hg6).trans p0
        have cp1 : ∀ W, Below w8.heap.size w8 W → W.cell? ⟨g6, o6 + t * 3 + 1, none⟩ = some (.int .i64 Z) := fun W h => (h.cell (p := ⟨g6, _, none⟩) hg6).trans p1
        have cp2 : ∀ W, Below w8.heap.size w8 W → W.cell? ⟨g6, o6 + t * 3 + 2, none⟩ = some (.bool u.opn) := fun W h => (h.cell (p := ⟨g6, _, none⟩) hg6).trans p2
        have cs0 : ∀ W, Below w8.heap.size w8 W → W.cell? ⟨g8, o8 + t * 3, none⟩ = some (.int .i64 u.line) := fun W h => (h.cell (p := ⟨g8, _, none⟩) hg8).trans s0
        have cs1 : ∀ W, Below w8.heap.size w8 W → W.cell? ⟨g8, o8 + t * 3 + 1, none⟩ = some (.int .i64 Z) := fun W h => (h.cell (p := ⟨g8, _, none⟩) hg8).trans s1
        have cs2 : ∀ W, Below w8.heap.size w8 W → W.cell? ⟨g8, o8 + t * 3 + 2, none⟩ = some (.bool u.opn) := fun W h => (h.cell (p := ⟨g8, _, none⟩) hg8).trans s2
        have cv1 : ∀ W, Below w8.heap.size w8 W → W.cell? ⟨g3, o3 + t * 3 + 1, none⟩ = some (.int .i64 u.net) := fun W h => (h.cell (p := ⟨g3, _, none⟩) hg3).trans v1
        have cr : ∀ W, Below w8.heap.size w8 W → W.cell? ⟨w.heap.size, 10, none⟩ = some (.int .i64 Q.amount) := fun W h => (h.cell (p := ⟨w.heap.size, _, none⟩) hbx.lt).trans (hbx.cell 10)
        have HB8 := Lib.hid HT8.out.below
        have HA := Lib.hid (fun W => awake_any W)
        have hun := unitsOf_each HVo.out HUu.out.1
        have hnn := hun
        clear p0 p1 p2 s0 s1 s2 v0 v1 v2 hg6 hg8 hg3 hbx hun
        have hoff : offOne Q u.net = min u.net Q.amount := by unfold offOne; rw [if_neg (by have := HQ.out.2.1; omega)]
        have ham := kind_two HQ.out.1 HQ.out.2.1
        rw [hoff] at hZ
        obtain ⟨X, hX⟩ : ∃ X, u.net = X := ⟨_, rfl⟩
        obtain ⟨am, ham2⟩ : ∃ am, Q.amount = am := ⟨_, rfl⟩
        simp only [hX, ham2] at *
        obtain ⟨D, hD⟩ : ∃ D, X - am = D := ⟨_, rfl⟩
        have w7a : IntKind.i64.wrap (X - am) = D := by rw [hD]; exact IntWalk.i64_in _ (by omega)
        have w7b : wrap64 (X - am) = D := by rw [hD]; exact IntWalk.wrap64_in _ (by omega)
        have hmx : max D 0 = Z := by omega
        clear hX ham2 hZ hnn hoff ham hD
        clear HQ HUu HYb HR68 HR8 HT8 HSq HMy
        go_wp2_with fail
        refine wp_region_held_drew (S := fun u => Below w8.heap.size w8 u) (by kernel_rfl) ((Below.refl _ _).drew) (fun hS0 => ?_)
        refine wpAnyH_ready (rs := [0]) (by kernel_rfl) (by simp) ?_
        refine AllReadyH.cons (o := ⟨some 58, _, _, _, _, _⟩) rfl (fun K hK => ?_) AllReadyH.nil
        go_simp
        refine (HA.out _).mono ?_
        rintro e wa ⟨rfl, hba⟩
        have hya : Below w8.heap.size w8 wa := Below.trans hS0 (hba.mono (Below.size hS0))
        go_wp2_with fail
        refine hK.out _ _ (hya) (fun hS1 => ?_)
        clear hK K
        try simp only [Act.put, pkA, pkB, pkC]
        refine pkT 1 59 hS1 ?_
        try simp only [Act.put, pkA, pkB, pkC]
        refine pkT 2 60 hS1 ?_
        try simp only [Act.put, pkA, pkB, pkC]
        refine pkT 3 61 hS1 ?_
        try simp only [Act.put, pkA, pkB, pkC]
        refine pkT 4 62 hS1 ?_
        try simp only [Act.put, pkA, pkB, pkC]
        refine pkT 5 63 hS1 ?_
        try simp only [Act.put, pkA, pkB, pkC]
        refine pkT 6 64 hS1 ?_
        try simp only [Act.put, pkA, pkB, pkC]
        refine pkT 7 65 hS1 ?_
        try simp only [Act.put, pkA, pkB, pkC]
        refine pkT 8 66 hS1 ?_
        try simp only [Act.put, pkA, pkB, pkC]
        refine pkT 9 67 hS1 ?_
        try simp only [Act.put, pkA, pkB, pkC]
        refine pkT 10 68 hS1 ?_
        try simp only [Act.put, pkA, pkB, pkC]
        refine pkT 11 69 hS1 ?_
        try simp only [Act.put, pkA, pkB, pkC]
        refine pkT 12 70 hS1 ?_
        try simp only [Act.put, pkA, pkB, pkC]
        refine pkT 13 71 hS1 ?_
        try simp only [Act.put, pkA, pkB, pkC]
        refine pkT 14 72 hS1 ?_
        try simp only [Act.put, pkA, pkB, pkC]
        refine pkT 15 73 hS1 ?_
        try simp only [Act.put, pkA, pkB, pkC]
        refine pkT 16 74 hS1 ?_
        try simp only [Act.put, pkA, pkB, pkC]
        refine pkT 17 75 hS1 ?_
        try simp only [Act.put, pkA, pkB, pkC]
        refine pkT 18 76 hS1 ?_
        try simp only [Act.put, pkA, pkB, pkC]
        refine pkT 19 77 hS1 ?_
        try simp only [Act.put, pkA, pkB, pkC]
        refine pkT 20 78 hS1 ?_
        try simp only [Act.put, pkA, pkB, pkC]
        refine pkT 21 79 hS1 ?_
        try simp only [Act.put, pkA, pkB, pkC]
        refine pkT 22 80 hS1 ?_
        try simp only [Act.put, pkA, pkB, pkC]
        refine pkT 23 81 hS1 ?_
        try simp only [Act.put, pkA, pkB, pkC]
        refine pkT 24 82 hS1 ?_
        try simp only [Act.put, pkA, pkB, pkC]
        refine pkT 25 83 hS1 ?_
        try simp only [Act.put, pkA, pkB, pkC]
        refine pkT 26 84 hS1 ?_
        try simp only [Act.put, pkA, pkB, pkC]
        refine wpAnyH_done (by kernel_rfl) ?_ _
        have HB9 := Lib.hid (And.intro hya (HB8.out.trans (hya.mono HB8.out.size)))
        clear hba hya
        go_wp2_with fail
        refine wp_region_held_drew (S := fun u => Below w8.heap.size w8 u) (by kernel_rfl) (HB9.out.1.drew) (fun hS0 => ?_)
        refine pkT 0 115 hS0 ?_
        try simp only [Act.put, pkA, pkB, pkC]
        refine pkT 1 116 hS0 ?_
        try simp only [Act.put, pkA, pkB, pkC]
        refine pkT 2 117 hS0 ?_
        try simp only [Act.put, pkA, pkB, pkC]
        refine pkT 3 118 hS0 ?_
        try simp only [Act.put, pkA, pkB, pkC]
        refine pkT 4 119 hS0 ?_
        try simp only [Act.put, pkA, pkB, pkC]
        refine pkT 5 120 hS0 ?_
        try simp only [Act.put, pkA, pkB, pkC]
        refine pkT 6 121 hS0 ?_
        try simp only [Act.put, pkA, pkB, pkC]
        refine pkT 7 122 hS0 ?_
        try simp only [Act.put, pkA, pkB, pkC]
        refine pkT 8 123 hS0 ?_
        try simp only [Act.put, pkA, pkB, pkC]
        refine pkT 9 124 hS0 ?_
        try simp only [Act.put, pkA, pkB, pkC]
        refine pkT 10 125 hS0 ?_
        try simp only [Act.put, pkA, pkB, pkC]
        refine pkT 11 126 hS0 ?_
        try simp only [Act.put, pkA, pkB, pkC]
        refine pkT 12 127 hS0 ?_
        try simp only [Act.put, pkA, pkB, pkC]
        refine pkT 13 128 hS0 ?_
        try simp only [Act.put, pkA, pkB, pkC]
        refine pkT 14 129 hS0 ?_
        try simp only [Act.put, pkA, pkB, pkC]
        refine pkT 15 8 hS0 ?_
        try simp only [Act.put, pkA, pkB, pkC]
        refine wpAnyH_done (by kernel_rfl) ?_ _
        have HB11 := Lib.hid (HB8.out.trans (Below.mono hS0 HB8.out.size))
        clear hS0
        go_wp2_with fail
        go_ret
        exact ⟨rfl, HB11.out⟩
theorem walk (w : World) (p : Prm) (l : Prm.Lay) (hP : Ap.Prm.Holds w (· < w.heap.size) p l) (A : Option Addr) (n c : Nat) (us : List Unt) (hU : Row kUnt w (· < w.heap.size) A n us) (hfU : Kd.Fit A n c) (pct : Bool) (at_ : Int) (wat : (Lit.int .i64 at_).wf = true) :
    Calls Try.prog 4 #[.agg #[.string p.id, .int .i64 p.kind, .int .i64 p.priority, .string p.group, .string p.code, .bool p.closes, .slice l.scope.skus.A l.scope.skus.n l.scope.skus.c, .slice l.scope.cats.A l.scope.cats.n l.scope.cats.c, .int .i64 p.least, .int .i64 p.rate, .int .i64 p.amount, .int .i64 p.buy, .int .i64 p.get, .slice l.parts.A l.parts.n l.parts.c, .slice l.tiers.A l.tiers.n l.tiers.c], .slice A n c, .bool pct, .int .i64 at_] w fun e w' => e = .returned (.bool true) ∧ Below w.heap.size w w' := by
  cases pct with
  | true => exact walk_true w p l hP A n c us hU hfU at_ wat
  | false => exact walk_false w p l hP A n c us hU hfU at_ wat
set_option maxRecDepth 100000 in
theorem lifted (os : Os) (started : os.Started) (H : Type) (enc : TypeId × Value → H) :
    ReturnsInHanded {} Try.checked os 4 .any (Rows.cutEachSpec.pre6 enc Try.prog Try.f4 Rows.cutEachRow.domain false) (Rows.cutEachSpec.post enc Try.prog Try.f4 false true false false) := by
  refine returnsInHanded_of_change (C := Try.checked) own started (by kernel_rfl) Try.func4
    (ChangeSpec.witness6 (enc := enc) (C := Try.checked) false ⟨#[], #[.agg #[.string ⟨#[]⟩, .int .i64 0, .int .i64 0, .string ⟨#[]⟩, .string ⟨#[]⟩, .bool false, .slice none 0 0, .slice none 0 0, .int .i64 0, .int .i64 0, .int .i64 0, .int .i64 0, .int .i64 0, .slice none 0 0, .slice none 0 0], .slice none 0 0, .bool false, .int .i64 0], []⟩ 8 (by kernel_rfl) (by kernel_rfl) (by kernel_rfl) (by kernel_rfl)) ?_
  intro W base args ds gs before hval0 hW hcnd _
  have hval : ∀ (j : Nat) t v, Try.f4.params[j]? = some t → args[j]? = some v → Value.okWide Try.prog W .any base t v := hval0
  have hW' := hW
  obtain ⟨p, q, hA0, hV, rfl, hfz, hnd⟩ := hW
  have hA : DataW.TrodAll enc Try.prog W 0 (fun _ => true) true Try.f4.params.toList args.toList ds p := hA0
  rw [Try.params4] at hA hval
  obtain ⟨v0, vs0, d0, ds0, p0, q0, hargs, rfl, rfl, h0, r0⟩ := trodAll_cons hA
  obtain ⟨v1, vs1, d1, ds1, p1, q1, rfl, rfl, rfl, h1, r1⟩ := trodAll_cons r0
  obtain ⟨v2, vs2, d2, ds2, p2, q2, rfl, rfl, rfl, h2, r2⟩ := trodAll_cons r1
  obtain ⟨v3, vs3, d3, ds3, p3, q3, rfl, rfl, rfl, h3, r3⟩ := trodAll_cons r2
  obtain ⟨rfl, rfl, rfl⟩ := trodAll_nil r3
  obtain rfl : args = #[v0, v1, v2, v3] := by cases args; simp_all
  obtain ⟨cs0, p0, rfl, r0⟩ := Kd.open_struct Ap.reads_Prm Try.underlying28 (hval 0 28 v0 rfl rfl) h0; obtain ⟨l0, rfl, x0⟩ := Ap.Prm_rep.1 r0
  obtain ⟨A1, n1, c1, xs1, rfl, x1, y1⟩ := Kd.open_list Ap.reads_Unt Try.underlying29 (by decide) (hval 1 29 v1 rfl rfl) h1
  obtain ⟨a2, rfl, _, _⟩ := open_bool Try.underlying4 (hval 2 4 v2 rfl rfl) h2
  obtain ⟨a3, rfl, _, _, w3⟩ := open_int Try.underlying3 (hval 3 3 v3 rfl rfl) h3
  refine (walk W p0 l0 x0 A1 n1 c1 xs1 x1 y1 a2 a3 w3).mono fun e W' ⟨he, hb⟩ => ?_
  subst he
  exact ⟨_, rfl, Hk.closeLaw (tb := 4) (by kernel_rfl) (by kernel_rfl) rfl rfl rfl Try.underlying4 hW' hb⟩
theorem over : Rows.cutEachRow.holds Try.pinned (OpenSpec.ofChange Rows.cutEachSpec) :=
  OpenClaim.holds_of_wide 4 Try.f4 rfl rfl rfl rfl rfl rfl rfl ⟨rfl, rfl, rfl, rfl, rfl⟩ rfl rfl rfl rfl rfl (by kernel_rfl) Try.func4 (by kernel_rfl)
    (of_decide_eq_true (by kernel_rfl)) (by unfold Func.isWrapper; first | (rw [if_pos (by decide +kernel)]; kernel_rfl) | (rw [if_neg (by decide +kernel)]; exact ⟨rfl, rfl⟩))
    (fun os started H enc _ => lifted os started H enc)
theorem proved : Rows.CutEachSaid :=
  over
end Go.Proofs.Ytacmoanhbkipfaa.cutEach
