/- P16.1: a promo that may be, over units and places that may be; for every promo, slice of units, and bits. No conditions. -/
import Derived.Test.YtljmddjlnlmenaaGreatPk0
import Derived.Test.YtljmddjlnlmenaaGreatPk24
import Derived.Test.YtljmddjlnlmenaaGreatPk28
import Derived.Test.YtljmddjlnlmenaaGreatPk32
import Derived.Test.YtljmddjlnlmenaaGreatPk46
import Derived.Test.YtljmddjlnlmenaaGreatPk8
set_option maxRecDepth 100000
set_option linter.unusedVariables false

namespace Go.Proofs.YtljmddjlnlmenaaGreat.dealBuyGet
open Go.ChangeShapes Go.WideShapes Go.ChangeAt Go.RowKit
open Ap (Scp Prt Tir Prm Unt kPrm kPrt kTir kUnt row_Prm row_Unt row_Tir)
open Kd (Kind Row Cells Fit Agree Lst Sl kStr kInt kList row_int row_list)
open Ko (Out Told Told2 At row_on)
open Dl
open Ct (nth nth_some UnitsMay take_next unitsOf unitsOf_may unitsOf_length units_any mineL mineFrom_length mine_any mine_may MadeN Turned turned_in anew_on holds_in holds_only withKind small_of nope)
theorem own : ownKnob Tryz.prog.godebug = none := by kernel_rfl
theorem bits_in {a : Int} (h : (Lit.int .u64 a).wf = true) : 0 <= a /\ a < 18446744073709551616 := by
  have h1 := Hk.wf_bounds h
  have h2 : IntKind.u64.min = 0 := rfl
  have h3 : IntKind.u64.max = 18446744073709551615 := rfl
  omega
set_option maxHeartbeats 8000000 in
theorem walk (w : World) (p : Prm) (l : Prm.Lay) (hP : Ap.Prm.Holds w (· < w.heap.size) p l) (A : Option Addr) (n c : Nat) (us : List Unt) (hU : Row kUnt w (· < w.heap.size) A n us) (hfU : Kd.Fit A n c) (bits : Int) (wbits : (Lit.int .u64 bits).wf = true) :
    Calls Tryz.prog 4 #[.agg #[.string p.id, .int .i64 p.kind, .int .i64 p.priority, .string p.group, .string p.code, .bool p.closes, .slice l.scope.skus.A l.scope.skus.n l.scope.skus.c, .slice l.scope.cats.A l.scope.cats.n l.scope.cats.c, .int .i64 p.least, .int .i64 p.rate, .int .i64 p.amount, .int .i64 p.buy, .int .i64 p.get, .slice l.parts.A l.parts.n l.parts.c, .slice l.tiers.A l.tiers.n l.tiers.c], .slice A n c, .int .u64 bits] w fun e w' => e = .returned (.bool true) /\ Below w.heap.size w w' := by
  obtain ⟨W1, hW1⟩ : ∃ W1, w.alloc (.cells #[.string p.id, .int .i64 p.kind, .int .i64 p.priority, .string p.group, .string p.code, .bool p.closes, .slice l.scope.skus.A l.scope.skus.n l.scope.skus.c, .slice l.scope.cats.A l.scope.cats.n l.scope.cats.c, .int .i64 p.least, .int .i64 p.rate, .int .i64 p.amount, .int .i64 p.buy, .int .i64 p.get, .slice l.parts.A l.parts.n l.parts.c, .slice l.tiers.A l.tiers.n l.tiers.c] 28) = W1 := ⟨_, rfl⟩
  have hb1 : Below w.heap.size w W1 := by rw [<- hW1]; exact (Below.refl _ _).alloc (Nat.le_refl _) _
  have hx1 : Qu.Blk W1 w.heap.size 28 #[.string p.id, .int .i64 p.kind, .int .i64 p.priority, .string p.group, .string p.code, .bool p.closes, .slice l.scope.skus.A l.scope.skus.n l.scope.skus.c, .slice l.scope.cats.A l.scope.cats.n l.scope.cats.c, .int .i64 p.least, .int .i64 p.rate, .int .i64 p.amount, .int .i64 p.buy, .int .i64 p.get, .slice l.parts.A l.parts.n l.parts.c, .slice l.tiers.A l.tiers.n l.tiers.c] := by rw [<- hW1]; exact Qu.Blk.new w _ _
  have HFw := Lib.hid (few_any p l A n c none 0 0 [] W1 (Pr.holds_later hP hb1) (Row.nil _ _ _ _) (by omega))
  unfold FewQ at HFw
  have HB1 := Lib.hid hb1
  have x0 := hx1.cell 0
  have x1 := hx1.cell 1
  have x2 := hx1.cell 2
  have x3 := hx1.cell 3
  have x4 := hx1.cell 4
  have x5 := hx1.cell 5
  have x6 := hx1.cell 6
  have x7 := hx1.cell 7
  have x8 := hx1.cell 8
  have x9 := hx1.cell 9
  have x10 := hx1.cell 10
  have x11 := hx1.cell 11
  have x12 := hx1.cell 12
  have x13 := hx1.cell 13
  have x14 := hx1.cell 14
  have HX := Lib.hid hx1
  have HP := Lib.hid hP
  have HU := Lib.hid hU
  have HBits := Lib.hid (bits_in wbits)
  clear hx1 hP hU hfU
  go_enter Tryz.func4, Tryz.ntmps4
  go_wp2_with fail
  clear hW1 hb1
  refine HFw.out.mono ?_
  rintro e W3 ⟨b, rfl, hfew, hb2⟩
  clear x0 x1 x2 x3 x4 x5 x6 x7 x8 x9 x10 x11 x12 x13 x14
  cases b with
  | false =>
    clear hfew HFw HX HP HU HBits
    have HA := Lib.hid (awake_any W3)
    have HBq := Lib.hid (HB1.out.trans (hb2.mono HB1.out.size))
    go_wp2_with fail
    refine HA.out.mono ?_
    rintro e wz ⟨rfl, hbz⟩
    have HBz := Lib.hid (HBq.out.trans (hbz.mono HBq.out.size))
    clear hbz
    go_wp2
    go_ret
    exact ⟨rfl, HBz.out⟩
  | true =>
    have hfw := (hfew rfl).1
    have hn2 : n <= 200 := hfw.units
    have HS := Lib.hid (small_of HP.out hfw.skus hfw.cats hfw.parts hfw.tiers)
    have hz3 : Qu.Blk W3 w.heap.size 28 #[.string p.id, .int .i64 p.kind, .int .i64 p.priority, .string p.group, .string p.code, .bool p.closes, .slice l.scope.skus.A l.scope.skus.n l.scope.skus.c, .slice l.scope.cats.A l.scope.cats.n l.scope.cats.c, .int .i64 p.least, .int .i64 p.rate, .int .i64 p.amount, .int .i64 p.buy, .int .i64 p.get, .slice l.parts.A l.parts.n l.parts.c, .slice l.tiers.A l.tiers.n l.tiers.c] := HX.out.below hb2
    have hb3 : Below w.heap.size w W3 := HB1.out.trans (hb2.mono HB1.out.size)
    have hlt3 := hz3.lt
    have HLt := Lib.hid hlt3
    have HB3 := Lib.hid hb3
    have hz0 := hz3.drew
    have hpk : Ap.Prm.Holds W3 (· < w.heap.size) p l := holds_in HP.out hb3
    have hPr := fun (u : World) (hu : Mv.Only W3 u (Mv.one w.heap.size)) => buyget_any p l u (holds_only hpk hlt3 hu) HS.out
    obtain ⟨q, hq⟩ : ∃ q, Py.nearP (withKind p 3) 1 = q := ⟨_, rfl⟩
    have HQe := Lib.hid hq
    simp only [hq] at hPr
    unfold MadeN at hPr
    have HPr : Hid (∀ (u : World), Mv.Only W3 u (Mv.one w.heap.size) -> Calls Tryz.prog 19 #[.agg #[.string p.id, .int .i64 p.kind, .int .i64 p.priority, .string p.group, .string p.code, .bool p.closes, .slice l.scope.skus.A l.scope.skus.n l.scope.skus.c, .slice l.scope.cats.A l.scope.cats.n l.scope.cats.c, .int .i64 p.least, .int .i64 p.rate, .int .i64 p.amount, .int .i64 p.buy, .int .i64 p.get, .slice l.parts.A l.parts.n l.parts.c, .slice l.tiers.A l.tiers.n l.tiers.c]] u fun e w' => ∃ m : Prm.Lay, e = .returned (.agg #[.string q.id, .int .i64 q.kind, .int .i64 q.priority, .string q.group, .string q.code, .bool q.closes, .slice m.scope.skus.A m.scope.skus.n m.scope.skus.c, .slice m.scope.cats.A m.scope.cats.n m.scope.cats.c, .int .i64 q.least, .int .i64 q.rate, .int .i64 q.amount, .int .i64 q.buy, .int .i64 q.get, .slice m.parts.A m.parts.n m.parts.c, .slice m.tiers.A m.tiers.n m.tiers.c]) /\ Pr.promoB q = true /\ (q.scope.skus.length <= 8 /\ q.scope.cats.length <= 8 /\ q.tiers.length <= 6 /\ q.parts.length <= 3) /\ Py.Anew u w' q m) := Lib.hid hPr
    have hUn := fun (u : World) (hu : Mv.Only W3 u (Mv.one w.heap.size)) => units_any A n c us u (((HU.out.below hb3 (Nat.le_refl _)).stay (fun b hb => hu.block b (by omega) fun e => by have : b = w.heap.size := e; omega)).more (fun b hb => by have := hu.size; omega)) (by omega)
    unfold Ko.Told at hUn
    obtain ⟨vs, hvs⟩ : ∃ vs, unitsOf us = vs := ⟨_, rfl⟩
    have hk60 : vs.length <= 60 := by rw [<- hvs]; exact unitsOf_length us
    have hvm : UnitsMay vs := by rw [<- hvs]; exact unitsOf_may us
    obtain ⟨k, hk⟩ : ∃ k, vs.length = k := ⟨_, rfl⟩
    simp only [hvs, hk] at hUn
    rw [hk] at hk60
    have HVs := Lib.hid hvm
    have HUn := Lib.hid hUn
    have x0 := hz3.cell 0
    have x1 := hz3.cell 1
    have x2 := hz3.cell 2
    have x3 := hz3.cell 3
    have x4 := hz3.cell 4
    have x5 := hz3.cell 5
    have x6 := hz3.cell 6
    have x7 := hz3.cell 7
    have x8 := hz3.cell 8
    have x9 := hz3.cell 9
    have x10 := hz3.cell 10
    have x11 := hz3.cell 11
    have x12 := hz3.cell 12
    have x13 := hz3.cell 13
    have x14 := hz3.cell 14
    clear hb3 hlt3 hpk hPr hq hUn hz3 hvs hk hvm hb2 hfew hfw HFw
    go_upto_region 3 with (fail)
    go_cut [1] from 17 to 20 (fun s1 wx => ∃ (A3 : Option Addr) (c3 : Nat) (m : Prm.Lay), s1 = .slice A3 k c3 /\ Hid (Turned w wx A3 k c3 vs q m /\ Pr.promoB q = true /\ (q.scope.skus.length <= 8 /\ q.scope.cats.length <= 8 /\ q.tiers.length <= 6 /\ q.parts.length <= 3)))
    case first =>
      refine wp_region_held_drew (S := fun u => Mv.Only W3 u (Mv.one w.heap.size)) (by kernel_rfl) ((Mv.Only.refl W3 _).drew) (fun hS0 => ?_)
      refine pkT 0 17 hS0 ?_
      try simp only [Act.put, pkA, pkB, pkC]
      refine wpAnyH_ready (rs := [1, 2]) (by kernel_rfl) (by simp) ?_
      refine AllReadyH.cons (o := ⟨some 18, _, _, _, _, _⟩) rfl (fun K hK => ?_) ?_
      ·
        go_simp
        refine (HUn.out _ hS0).mono ?_
        rintro e wU ⟨A3, c3, rfl, hoU, hbU⟩
        have hyU : Mv.Only W3 wU (Mv.one w.heap.size) := Mv.Only.below hS0 hbU
        have hzU : Qu.Blk wU w.heap.size 28 #[.string p.id, .int .i64 p.kind, .int .i64 p.priority, .string p.group, .string p.code, .bool p.closes, .slice l.scope.skus.A l.scope.skus.n l.scope.skus.c, .slice l.scope.cats.A l.scope.cats.n l.scope.cats.c, .int .i64 p.least, .int .i64 p.rate, .int .i64 p.amount, .int .i64 p.buy, .int .i64 p.get, .slice l.parts.A l.parts.n l.parts.c, .slice l.tiers.A l.tiers.n l.tiers.c] := (by first | exact hzP.below hbU | exact hz0.below hbU)
        have zU0 := hzU.cell 0
        have zU1 := hzU.cell 1
        have zU2 := hzU.cell 2
        have zU3 := hzU.cell 3
        have zU4 := hzU.cell 4
        have zU5 := hzU.cell 5
        have zU6 := hzU.cell 6
        have zU7 := hzU.cell 7
        have zU8 := hzU.cell 8
        have zU9 := hzU.cell 9
        have zU10 := hzU.cell 10
        have zU11 := hzU.cell 11
        have zU12 := hzU.cell 12
        have zU13 := hzU.cell 13
        have zU14 := hzU.cell 14
        have zUf := hzU.frozen
        go_wp2_with fail
        refine hK.out _ _ (hyU) (fun hS1 => ?_)
        clear hK K
        try simp only [Act.put, pkA, pkB, pkC]
        refine wpAnyH_ready (rs := [2]) (by kernel_rfl) (by simp) ?_
        refine AllReadyH.cons (o := ⟨some 19, _, _, _, _, _⟩) rfl (fun K hK => ?_) AllReadyH.nil
        go_simp
        refine hK.out _ _ (hS1) (fun hS2 => ?_)
        clear hK K
        try simp only [Act.put, pkA, pkB, pkC]
        refine wpAnyH_ready (rs := [3]) (by kernel_rfl) (by simp) ?_
        refine AllReadyH.cons (o := ⟨some 20, _, _, _, _, _⟩) rfl (fun K hK => ?_) AllReadyH.nil
        go_simp
        refine (HPr.out _ hS2).mono ?_
        rintro e wP ⟨m, rfl, hmP, hfP, haP⟩
        have hyP : Mv.Only W3 wP (Mv.one w.heap.size) := Mv.Only.below hS2 haP.below
        have hzP : Qu.Blk wP w.heap.size 28 #[.string p.id, .int .i64 p.kind, .int .i64 p.priority, .string p.group, .string p.code, .bool p.closes, .slice l.scope.skus.A l.scope.skus.n l.scope.skus.c, .slice l.scope.cats.A l.scope.cats.n l.scope.cats.c, .int .i64 p.least, .int .i64 p.rate, .int .i64 p.amount, .int .i64 p.buy, .int .i64 p.get, .slice l.parts.A l.parts.n l.parts.c, .slice l.tiers.A l.tiers.n l.tiers.c] := (by first | exact hzU.below haP.below | exact hz0.below haP.below)
        have zP0 := hzP.cell 0
        have zP1 := hzP.cell 1
        have zP2 := hzP.cell 2
        have zP3 := hzP.cell 3
        have zP4 := hzP.cell 4
        have zP5 := hzP.cell 5
        have zP6 := hzP.cell 6
        have zP7 := hzP.cell 7
        have zP8 := hzP.cell 8
        have zP9 := hzP.cell 9
        have zP10 := hzP.cell 10
        have zP11 := hzP.cell 11
        have zP12 := hzP.cell 12
        have zP13 := hzP.cell 13
        have zP14 := hzP.cell 14
        have zPf := hzP.frozen
        go_wp2_with fail
        refine hK.out _ _ (hyP) (fun hS3 => ?_)
        clear hK K
        try simp only [Act.put, pkA, pkB, pkC]
        refine pkT 4 1 hS3 ?_
        try simp only [Act.put, pkA, pkB, pkC]
        refine wpAnyH_ready (rs := [5]) (by kernel_rfl) (by simp) ?_
        refine AllReadyH.cons (o := ⟨none, _, _, _, _, _⟩) rfl (fun K hK => ?_) AllReadyH.nil
        go_simp
        refine hK.out _ _ (Py.only_puts (q.enc m) _ 0 hS3) (fun hS4 => ?_)
        clear hK K
        try simp only [Act.put, pkA, pkB, pkC]
        refine wpAnyH_done (by kernel_rfl) ?_ _
        go_wp2_with fail
        go_meet
        first | exact ⟨A3, c3, m, rfl, Lib.hid ⟨turned_in (hoU.later haP.below) HLt.out haP hzU.lt hzP ⟨_, _, _, _, _, _, _, _, _, _, _, _, _, _, _, rfl⟩ (HB3.out.trans (hyP.toBelow (Nat.le_of_lt HLt.out) fun j hj e => by have : j = w.heap.size := e; omega)) rfl, hmP, hfP⟩⟩ | exact ⟨A3, c3, m, rfl, Lib.hid ⟨turned_in hoU hzP.lt (anew_on haP hbU) HLt.out hzU ⟨_, _, _, _, _, _, _, _, _, _, _, _, _, _, _, rfl⟩ (HB3.out.trans (hyU.toBelow (Nat.le_of_lt HLt.out) fun j hj e => by have : j = w.heap.size := e; omega)) rfl, hmP, hfP⟩⟩
      refine AllReadyH.cons (o := ⟨some 19, _, _, _, _, _⟩) rfl (fun K hK => ?_) AllReadyH.nil
      go_simp
      refine hK.out _ _ (hS0) (fun hS1 => ?_)
      clear hK K
      try simp only [Act.put, pkA, pkB, pkC]
      refine wpAnyH_ready (rs := [1]) (by kernel_rfl) (by simp) ?_
      refine AllReadyH.cons (o := ⟨some 18, _, _, _, _, _⟩) rfl (fun K hK => ?_) AllReadyH.nil
      go_simp
      refine (HUn.out _ hS1).mono ?_
      rintro e wU ⟨A3, c3, rfl, hoU, hbU⟩
      have hyU : Mv.Only W3 wU (Mv.one w.heap.size) := Mv.Only.below hS1 hbU
      have hzU : Qu.Blk wU w.heap.size 28 #[.string p.id, .int .i64 p.kind, .int .i64 p.priority, .string p.group, .string p.code, .bool p.closes, .slice l.scope.skus.A l.scope.skus.n l.scope.skus.c, .slice l.scope.cats.A l.scope.cats.n l.scope.cats.c, .int .i64 p.least, .int .i64 p.rate, .int .i64 p.amount, .int .i64 p.buy, .int .i64 p.get, .slice l.parts.A l.parts.n l.parts.c, .slice l.tiers.A l.tiers.n l.tiers.c] := (by first | exact hzP.below hbU | exact hz0.below hbU)
      have zU0 := hzU.cell 0
      have zU1 := hzU.cell 1
      have zU2 := hzU.cell 2
      have zU3 := hzU.cell 3
      have zU4 := hzU.cell 4
      have zU5 := hzU.cell 5
      have zU6 := hzU.cell 6
      have zU7 := hzU.cell 7
      have zU8 := hzU.cell 8
      have zU9 := hzU.cell 9
      have zU10 := hzU.cell 10
      have zU11 := hzU.cell 11
      have zU12 := hzU.cell 12
      have zU13 := hzU.cell 13
      have zU14 := hzU.cell 14
      have zUf := hzU.frozen
      go_wp2_with fail
      refine hK.out _ _ (hyU) (fun hS2 => ?_)
      clear hK K
      try simp only [Act.put, pkA, pkB, pkC]
      refine wpAnyH_ready (rs := [3]) (by kernel_rfl) (by simp) ?_
      refine AllReadyH.cons (o := ⟨some 20, _, _, _, _, _⟩) rfl (fun K hK => ?_) AllReadyH.nil
      go_simp
      refine (HPr.out _ hS2).mono ?_
      rintro e wP ⟨m, rfl, hmP, hfP, haP⟩
      have hyP : Mv.Only W3 wP (Mv.one w.heap.size) := Mv.Only.below hS2 haP.below
      have hzP : Qu.Blk wP w.heap.size 28 #[.string p.id, .int .i64 p.kind, .int .i64 p.priority, .string p.group, .string p.code, .bool p.closes, .slice l.scope.skus.A l.scope.skus.n l.scope.skus.c, .slice l.scope.cats.A l.scope.cats.n l.scope.cats.c, .int .i64 p.least, .int .i64 p.rate, .int .i64 p.amount, .int .i64 p.buy, .int .i64 p.get, .slice l.parts.A l.parts.n l.parts.c, .slice l.tiers.A l.tiers.n l.tiers.c] := (by first | exact hzU.below haP.below | exact hz0.below haP.below)
      have zP0 := hzP.cell 0
      have zP1 := hzP.cell 1
      have zP2 := hzP.cell 2
      have zP3 := hzP.cell 3
      have zP4 := hzP.cell 4
      have zP5 := hzP.cell 5
      have zP6 := hzP.cell 6
      have zP7 := hzP.cell 7
      have zP8 := hzP.cell 8
      have zP9 := hzP.cell 9
      have zP10 := hzP.cell 10
      have zP11 := hzP.cell 11
      have zP12 := hzP.cell 12
      have zP13 := hzP.cell 13
      have zP14 := hzP.cell 14
      have zPf := hzP.frozen
      go_wp2_with fail
      refine hK.out _ _ (hyP) (fun hS3 => ?_)
      clear hK K
      try simp only [Act.put, pkA, pkB, pkC]
      refine pkT 4 1 hS3 ?_
      try simp only [Act.put, pkA, pkB, pkC]
      refine wpAnyH_ready (rs := [5]) (by kernel_rfl) (by simp) ?_
      refine AllReadyH.cons (o := ⟨none, _, _, _, _, _⟩) rfl (fun K hK => ?_) AllReadyH.nil
      go_simp
      refine hK.out _ _ (Py.only_puts (q.enc m) _ 0 hS3) (fun hS4 => ?_)
      clear hK K
      try simp only [Act.put, pkA, pkB, pkC]
      refine wpAnyH_done (by kernel_rfl) ?_ _
      go_wp2_with fail
      go_meet
      first | exact ⟨A3, c3, m, rfl, Lib.hid ⟨turned_in (hoU.later haP.below) HLt.out haP hzU.lt hzP ⟨_, _, _, _, _, _, _, _, _, _, _, _, _, _, _, rfl⟩ (HB3.out.trans (hyP.toBelow (Nat.le_of_lt HLt.out) fun j hj e => by have : j = w.heap.size := e; omega)) rfl, hmP, hfP⟩⟩ | exact ⟨A3, c3, m, rfl, Lib.hid ⟨turned_in hoU hzP.lt (anew_on haP hbU) HLt.out hzU ⟨_, _, _, _, _, _, _, _, _, _, _, _, _, _, _, rfl⟩ (HB3.out.trans (hyU.toBelow (Nat.le_of_lt HLt.out) fun j hj e => by have : j = w.heap.size := e; omega)) rfl, hmP, hfP⟩⟩
    case rest =>
      obtain ⟨A3, c3, m, rfl, HT⟩ := hcut
      clear x0 x1 x2 x3 x4 x5 x6 x7 x8 x9 x10 x11 x12 x13 x14
      clear hz0 HPr HUn HLt HB3 HX HB1 HP HU
      have HSq : Hid (Pr.PrmSmall q m) := Lib.hid (small_of HT.out.1.all (by have := HT.out.2.2; omega) (by have := HT.out.2.2; omega) (by have := HT.out.2.2; omega) (by have := HT.out.2.2; omega))
      have H7 := mine_any A3 k c3 vs bits wc HT.out.1.urow (by omega) HBits.out.1 HBits.out.2
      unfold Ko.Told at H7
      obtain ⟨ps, hps⟩ : ∃ ps, mineL bits vs = ps := ⟨_, rfl⟩
      have hpl : ps.length <= 60 := by rw [<- hps]; have := mineFrom_length bits 0 vs; have := HT.out.1.urow.len; unfold mineL; omega
      obtain ⟨j, hj⟩ : ∃ j, ps.length = j := ⟨_, rfl⟩
      rw [hps] at H7
      simp only [hj] at H7
      rw [hj] at hpl
      have H7h := Lib.hid H7
      clear H7 hps hj
      go_wp2_with fail
      refine H7h.out.mono ?_
      rintro e w7 ⟨A7, c7, rfl, ho7, hb7⟩
      have HT7 := Lib.hid (HT.out.1.on hb7)
      have HM7 := Lib.hid ho7.read
      have H8 := lbuyget_any q m A3 k c3 vs A7 j c7 ps w7 HT7.out.all HSq.out HT7.out.urow HT7.out.fit HM7.out (by omega) (by omega)
      have H9 := fun W (hb : Below w7.heap.size w7 W) => rbuyget_any q m A3 k c3 vs A7 j c7 ps W (HT7.out.on hb).all HSq.out (HT7.out.on hb).urow HT7.out.fit (row_on HM7.out hb) (by omega) (by omega)
      unfold Ko.Told2 at H8 H9
      obtain ⟨ys, hys⟩ : ∃ ys, (buygetU q vs ps).1 = ys := ⟨_, rfl⟩
      obtain ⟨z, hz⟩ : ∃ z, (buygetU q vs ps).2 = z := ⟨_, rfl⟩
      have hyl : ys.length = vs.length := by rw [<- hys]; exact (keep_rows q (pl := [ps]) HVs.out (by simp)).len
      rw [HT7.out.urow.len] at hyl
      simp only [hys, hz, hyl] at H8 H9
      have H8h := Lib.hid H8
      have H9h := Lib.hid H9
      have hx := HT7.out.blk
      have x0 := hx.cell 0
      have x1 := hx.cell 1
      have x2 := hx.cell 2
      have x3 := hx.cell 3
      have x4 := hx.cell 4
      have x5 := hx.cell 5
      have x6 := hx.cell 6
      have x7 := hx.cell 7
      have x8 := hx.cell 8
      have x9 := hx.cell 9
      have x10 := hx.cell 10
      have x11 := hx.cell 11
      have x12 := hx.cell 12
      have x13 := hx.cell 13
      have x14 := hx.cell 14
      clear hb7 ho7 H7h H8 H9 hys hz hyl HT hx
      go_wp2_with fail
      refine H8h.out.mono ?_
      rintro e w8 ⟨A8, c8, rfl, ho8, hb8⟩
      clear x0 x1 x2 x3 x4 x5 x6 x7 x8 x9 x10 x11 x12 x13 x14
      have HR8 := Lib.hid ho8.read
      have HB8 := Lib.hid (HT7.out.below.trans (hb8.mono HT7.out.below.size))
      have H9i := Lib.hid (H9h.out w8 hb8)
      have hx := (HT7.out.on hb8).blk
      have x0 := hx.cell 0
      have x1 := hx.cell 1
      have x2 := hx.cell 2
      have x3 := hx.cell 3
      have x4 := hx.cell 4
      have x5 := hx.cell 5
      have x6 := hx.cell 6
      have x7 := hx.cell 7
      have x8 := hx.cell 8
      have x9 := hx.cell 9
      have x10 := hx.cell 10
      have x11 := hx.cell 11
      have x12 := hx.cell 12
      have x13 := hx.cell 13
      have x14 := hx.cell 14
      clear hb8 ho8 H8h H9h hx HT7
      go_wp2_with fail
      refine H9i.out.mono ?_
      rintro e w9 ⟨A9, c9, rfl, ho9, hb9⟩
      clear x0 x1 x2 x3 x4 x5 x6 x7 x8 x9 x10 x11 x12 x13 x14
      have HR89 := Lib.hid (row_on HR8.out hb9)
      have HR9 := Lib.hid ho9.read
      have HB9 := Lib.hid (HB8.out.trans (hb9.mono HB8.out.size))
      have HA := Lib.hid (awake_any w9)
      clear hb9 ho9 H9i
      go_wp2_with fail
      refine HA.out.mono ?_
      rintro e w10 ⟨rfl, hb10⟩
      have HB10 := Lib.hid (HB9.out.trans (hb10.mono HB9.out.size))
      have H11 := Ap.Unt.plain_any A8 A9 k k c8 c9 ys ys _ w10 (row_on HR89.out hb10) (row_on HR9.out hb10) (fun b hb => hb) (by omega)
      rw [Kd.eqL_refl (fun y => Ap.Unt.sameB_refl y)] at H11
      have H11h := Lib.hid H11
      clear hb10 HA H11
      go_wp2_with fail
      refine H11h.out.mono ?_
      rintro e w11 ⟨rfl, hb11⟩
      have HB11 := Lib.hid (HB10.out.trans (hb11.mono HB10.out.size))
      clear hb11 H11h
      go_wp2
      go_ret
      exact ⟨rfl, HB11.out⟩
set_option maxRecDepth 100000 in
theorem lifted (os : Os) (started : os.Started) (H : Type) (enc : TypeId × Value -> H) :
    ReturnsInHanded {} Tryz.checked os 4 .any (Rows.dealBuyGetSpec.pre6 enc Tryz.prog Tryz.f4 Rows.dealBuyGetRow.domain false) (Rows.dealBuyGetSpec.post enc Tryz.prog Tryz.f4 false true false false) := by
  refine returnsInHanded_of_change (C := Tryz.checked) own started (by kernel_rfl) Tryz.func4
    (ChangeSpec.witness6 (enc := enc) (C := Tryz.checked) false ⟨#[], #[.agg #[.string ⟨#[]⟩, .int .i64 0, .int .i64 0, .string ⟨#[]⟩, .string ⟨#[]⟩, .bool false, .slice none 0 0, .slice none 0 0, .int .i64 0, .int .i64 0, .int .i64 0, .int .i64 0, .int .i64 0, .slice none 0 0, .slice none 0 0], .slice none 0 0, .int .u64 0], []⟩ 8 (by kernel_rfl) (by kernel_rfl) (by kernel_rfl) (by kernel_rfl)) ?_
  intro W base args ds gs before hval0 hW hcnd _
  have hval : ∀ (j : Nat) t v, Tryz.f4.params[j]? = some t -> args[j]? = some v -> Value.okWide Tryz.prog W .any base t v := hval0
  have hW' := hW
  obtain ⟨p, q, hA0, hV, rfl, hfz, hnd⟩ := hW
  have hA : DataW.TrodAll enc Tryz.prog W 0 (fun _ => true) true Tryz.f4.params.toList args.toList ds p := hA0
  rw [Tryz.params4] at hA hval
  obtain ⟨v0, vs0, d0, ds0, p0, q0, hargs, rfl, rfl, h0, r0⟩ := trodAll_cons hA
  obtain ⟨v1, vs1, d1, ds1, p1, q1, rfl, rfl, rfl, h1, r1⟩ := trodAll_cons r0
  obtain ⟨v2, vs2, d2, ds2, p2, q2, rfl, rfl, rfl, h2, r2⟩ := trodAll_cons r1
  obtain ⟨rfl, rfl, rfl⟩ := trodAll_nil r2
  obtain rfl : args = #[v0, v1, v2] := by cases args; simp_all
  obtain ⟨cs0, p0, rfl, r0⟩ := Kd.open_struct Ap.reads_Prm Tryz.underlying28 (hval 0 28 v0 rfl rfl) h0; obtain ⟨l0, rfl, x0⟩ := Ap.Prm_rep.1 r0
  obtain ⟨A1, n1, c1, xs1, rfl, x1, y1⟩ := Kd.open_list Ap.reads_Unt Tryz.underlying29 (by decide) (hval 1 29 v1 rfl rfl) h1
  obtain ⟨a2, rfl, _, _, w2⟩ := open_int Tryz.underlying44 (hval 2 44 v2 rfl rfl) h2
  refine (walk W p0 l0 x0 A1 n1 c1 xs1 x1 y1 a2 w2).mono fun e W' ⟨he, hb⟩ => ?_
  subst he
  exact ⟨_, rfl, Hk.closeLaw (tb := 4) (by kernel_rfl) (by kernel_rfl) rfl rfl rfl Tryz.underlying4 hW' hb⟩
theorem over : Rows.dealBuyGetRow.holds Tryz.pinned (OpenSpec.ofChange Rows.dealBuyGetSpec) :=
  OpenClaim.holds_of_wide 4 Tryz.f4 rfl rfl rfl rfl rfl rfl rfl ⟨rfl, rfl, rfl, rfl, rfl⟩ rfl rfl rfl rfl rfl (by kernel_rfl) Tryz.func4 (by kernel_rfl)
    (of_decide_eq_true (by kernel_rfl)) (by unfold Func.isWrapper; first | (rw [if_pos (by decide +kernel)]; kernel_rfl) | (rw [if_neg (by decide +kernel)]; exact ⟨rfl, rfl⟩))
    (fun os started H enc _ => lifted os started H enc)
theorem proved : Rows.DealBuyGetSaid :=
  over
end Go.Proofs.YtljmddjlnlmenaaGreat.dealBuyGet
