/- P16.2: a promo that may be, over units and places that may be, also where parts share places; for every promo, slice of units, slice of bits, and number. No conditions. -/
import Derived.Test.YtljmddjlnlmenaaGreatPk0
import Derived.Test.YtljmddjlnlmenaaGreatPk24
import Derived.Test.YtljmddjlnlmenaaGreatPk28
import Derived.Test.YtljmddjlnlmenaaGreatPk32
import Derived.Test.YtljmddjlnlmenaaGreatPk39
import Derived.Test.YtljmddjlnlmenaaGreatPk44
import Derived.Test.YtljmddjlnlmenaaGreatPk8
set_option maxRecDepth 100000
set_option linter.unusedVariables false

namespace Go.Proofs.YtljmddjlnlmenaaGreat.dealBundle
open Go.ChangeShapes Go.WideShapes Go.ChangeAt Go.RowKit
open Ap (Scp Prt Tir Prm Unt kPrm kPrt kTir kUnt row_Prm row_Unt row_Tir)
open Kd (Kind Row Cells Fit Agree Lst Sl kStr kInt kList row_int row_list)
open Ko (Out Told Told2 At row_on)
open Dl
open Ct (nth nth_some UnitsMay take_next unitsOf unitsOf_may unitsOf_length units_any mineL mineFrom_length mine_any mine_may MadeN Turned turned_in anew_on holds_in holds_only withKind small_of nope)
theorem own : ownKnob Tryz.prog.godebug = none := by kernel_rfl
structure Prs (wx : World) (A : Option Addr) (n c : Nat) (ls : List (List Int)) : Prop where
  row : Row (kList kInt) wx (· < wx.heap.size) A n ls
  fit : Kd.Fit A n c
  few : n <= 10
  each : ∀ x ∈ ls, x.length <= 60
theorem mineL_60 {b : Int} {vs : List Unt} (h : vs.length <= 60) : (mineL b vs).length <= 60 := by
  have := mineFrom_length b 0 vs
  unfold mineL; omega
set_option maxHeartbeats 8000000 in
theorem walk (w : World) (p : Prm) (l : Prm.Lay) (hP : Ap.Prm.Holds w (· < w.heap.size) p l) (A : Option Addr) (n c : Nat) (us : List Unt) (hU : Row kUnt w (· < w.heap.size) A n us) (hfU : Kd.Fit A n c) (Bb : Option Addr) (nb cb : Nat) (bs : List Int) (hBs : Row kW64 w (· < w.heap.size) Bb nb bs) (hfB : Kd.Fit Bb nb cb) (how : Int) (whow : (Lit.int .i64 how).wf = true) :
    Calls Tryz.prog 5 #[.agg #[.string p.id, .int .i64 p.kind, .int .i64 p.priority, .string p.group, .string p.code, .bool p.closes, .slice l.scope.skus.A l.scope.skus.n l.scope.skus.c, .slice l.scope.cats.A l.scope.cats.n l.scope.cats.c, .int .i64 p.least, .int .i64 p.rate, .int .i64 p.amount, .int .i64 p.buy, .int .i64 p.get, .slice l.parts.A l.parts.n l.parts.c, .slice l.tiers.A l.tiers.n l.tiers.c], .slice A n c, .slice Bb nb cb, .int .i64 how] w fun e w' => e = .returned (.bool true) /\ Below w.heap.size w w' := by
  obtain ⟨W1, hW1⟩ : ∃ W1, w.alloc (.cells #[.string p.id, .int .i64 p.kind, .int .i64 p.priority, .string p.group, .string p.code, .bool p.closes, .slice l.scope.skus.A l.scope.skus.n l.scope.skus.c, .slice l.scope.cats.A l.scope.cats.n l.scope.cats.c, .int .i64 p.least, .int .i64 p.rate, .int .i64 p.amount, .int .i64 p.buy, .int .i64 p.get, .slice l.parts.A l.parts.n l.parts.c, .slice l.tiers.A l.tiers.n l.tiers.c] 28) = W1 := ⟨_, rfl⟩
  have hb1 : Below w.heap.size w W1 := by rw [<- hW1]; exact (Below.refl _ _).alloc (Nat.le_refl _) _
  have hx1 : Qu.Blk W1 w.heap.size 28 #[.string p.id, .int .i64 p.kind, .int .i64 p.priority, .string p.group, .string p.code, .bool p.closes, .slice l.scope.skus.A l.scope.skus.n l.scope.skus.c, .slice l.scope.cats.A l.scope.cats.n l.scope.cats.c, .int .i64 p.least, .int .i64 p.rate, .int .i64 p.amount, .int .i64 p.buy, .int .i64 p.get, .slice l.parts.A l.parts.n l.parts.c, .slice l.tiers.A l.tiers.n l.tiers.c] := by rw [<- hW1]; exact Qu.Blk.new w _ _
  have HFw := Lib.hid (few_any p l A n c none 0 0 [] W1 (Pr.holds_later hP hb1) (Row.nil _ _ _ _) (by omega))
  unfold FewQ at HFw
  have HB1 := Lib.hid hb1
  have x0 := hx1.cell 0
  have x1 := hx1.cell 1
  have x2 := hx1.cell 2
  have x3 := hx1.cell 3
  have x4 := hx1.cell 4
  have x5 := hx1.cell 5
  have x6 := hx1.cell 6
  have x7 := hx1.cell 7
  have x8 := hx1.cell 8
  have x9 := hx1.cell 9
  have x10 := hx1.cell 10
  have x11 := hx1.cell 11
  have x12 := hx1.cell 12
  have x13 := hx1.cell 13
  have x14 := hx1.cell 14
  have HX := Lib.hid hx1
  have HP := Lib.hid hP
  have HU := Lib.hid hU
  have HBs := Lib.hid hBs
  clear hBs hfB whow
  clear hx1 hP hU hfU
  go_enter Tryz.func5, Tryz.ntmps5
  go_wp2_with fail
  clear hW1 hb1
  refine HFw.out.mono ?_
  rintro e W3 ⟨b, rfl, hfew, hb2⟩
  clear x0 x1 x2 x3 x4 x5 x6 x7 x8 x9 x10 x11 x12 x13 x14
  cases b with
  | false =>
    clear hfew HFw HX HP HU HBs
    have HA := Lib.hid (awake_any W3)
    have HBq := Lib.hid (HB1.out.trans (hb2.mono HB1.out.size))
    go_wp2_with fail
    refine HA.out.mono ?_
    rintro e wz ⟨rfl, hbz⟩
    have HBz := Lib.hid (HBq.out.trans (hbz.mono HBq.out.size))
    clear hbz
    go_wp2
    go_ret
    exact ⟨rfl, HBz.out⟩
  | true =>
    by_cases hnb : 20 < nb
    . have i2 : (20 : Int) < (nb : Int) := by omega
      clear hfew HFw HX HP HU HBs
      have HA := Lib.hid (awake_any W3)
      have HBq := Lib.hid (HB1.out.trans (hb2.mono HB1.out.size))
      go_wp2_with fail
      refine HA.out.mono ?_
      rintro e wz ⟨rfl, hbz⟩
      have HBz := Lib.hid (HBq.out.trans (hbz.mono HBq.out.size))
      clear hbz
      go_wp2
      go_ret
      exact ⟨rfl, HBz.out⟩
    have i2 : ¬ (20 : Int) < (nb : Int) := by omega
    have hfw := (hfew rfl).1
    have hn2 : n <= 200 := hfw.units
    have HS := Lib.hid (small_of HP.out hfw.skus hfw.cats hfw.parts hfw.tiers)
    have hz3 : Qu.Blk W3 w.heap.size 28 #[.string p.id, .int .i64 p.kind, .int .i64 p.priority, .string p.group, .string p.code, .bool p.closes, .slice l.scope.skus.A l.scope.skus.n l.scope.skus.c, .slice l.scope.cats.A l.scope.cats.n l.scope.cats.c, .int .i64 p.least, .int .i64 p.rate, .int .i64 p.amount, .int .i64 p.buy, .int .i64 p.get, .slice l.parts.A l.parts.n l.parts.c, .slice l.tiers.A l.tiers.n l.tiers.c] := HX.out.below hb2
    have hb3 : Below w.heap.size w W3 := HB1.out.trans (hb2.mono HB1.out.size)
    have hlt3 := hz3.lt
    have HLt := Lib.hid hlt3
    have HB3 := Lib.hid hb3
    have hz0 := hz3.drew
    have hpk : Ap.Prm.Holds W3 (· < w.heap.size) p l := holds_in HP.out hb3
    have hPr := fun (u : World) (hu : Mv.Only W3 u (Mv.one w.heap.size)) => bundle_any p l u (holds_only hpk hlt3 hu) HS.out
    obtain ⟨q, hq⟩ : ∃ q, Py.nearP (withKind p 4) 1 = q := ⟨_, rfl⟩
    have HQe := Lib.hid hq
    simp only [hq] at hPr
    unfold MadeN at hPr
    have HPr : Hid (∀ (u : World), Mv.Only W3 u (Mv.one w.heap.size) -> Calls Tryz.prog 21 #[.agg #[.string p.id, .int .i64 p.kind, .int .i64 p.priority, .string p.group, .string p.code, .bool p.closes, .slice l.scope.skus.A l.scope.skus.n l.scope.skus.c, .slice l.scope.cats.A l.scope.cats.n l.scope.cats.c, .int .i64 p.least, .int .i64 p.rate, .int .i64 p.amount, .int .i64 p.buy, .int .i64 p.get, .slice l.parts.A l.parts.n l.parts.c, .slice l.tiers.A l.tiers.n l.tiers.c]] u fun e w' => ∃ m : Prm.Lay, e = .returned (.agg #[.string q.id, .int .i64 q.kind, .int .i64 q.priority, .string q.group, .string q.code, .bool q.closes, .slice m.scope.skus.A m.scope.skus.n m.scope.skus.c, .slice m.scope.cats.A m.scope.cats.n m.scope.cats.c, .int .i64 q.least, .int .i64 q.rate, .int .i64 q.amount, .int .i64 q.buy, .int .i64 q.get, .slice m.parts.A m.parts.n m.parts.c, .slice m.tiers.A m.tiers.n m.tiers.c]) /\ Pr.promoB q = true /\ (q.scope.skus.length <= 8 /\ q.scope.cats.length <= 8 /\ q.tiers.length <= 6 /\ q.parts.length <= 3) /\ Py.Anew u w' q m) := Lib.hid hPr
    have hUn := fun (u : World) (hu : Mv.Only W3 u (Mv.one w.heap.size)) => units_any A n c us u (((HU.out.below hb3 (Nat.le_refl _)).stay (fun b hb => hu.block b (by omega) fun e => by have : b = w.heap.size := e; omega)).more (fun b hb => by have := hu.size; omega)) (by omega)
    unfold Ko.Told at hUn
    obtain ⟨vs, hvs⟩ : ∃ vs, unitsOf us = vs := ⟨_, rfl⟩
    have hk60 : vs.length <= 60 := by rw [<- hvs]; exact unitsOf_length us
    have hvm : UnitsMay vs := by rw [<- hvs]; exact unitsOf_may us
    obtain ⟨k, hk⟩ : ∃ k, vs.length = k := ⟨_, rfl⟩
    simp only [hvs, hk] at hUn
    rw [hk] at hk60
    have HVs := Lib.hid hvm
    have HUn := Lib.hid hUn
    have x0 := hz3.cell 0
    have x1 := hz3.cell 1
    have x2 := hz3.cell 2
    have x3 := hz3.cell 3
    have x4 := hz3.cell 4
    have x5 := hz3.cell 5
    have x6 := hz3.cell 6
    have x7 := hz3.cell 7
    have x8 := hz3.cell 8
    have x9 := hz3.cell 9
    have x10 := hz3.cell 10
    have x11 := hz3.cell 11
    have x12 := hz3.cell 12
    have x13 := hz3.cell 13
    have x14 := hz3.cell 14
    clear hb3 hlt3 hpk hPr hq hUn hz3 hvs hk hvm hb2 hfew hfw HFw
    go_upto_region 3 with (fail)
    go_cut [1] from 24 to 27 (fun s1 wx => ∃ (A3 : Option Addr) (c3 : Nat) (m : Prm.Lay), s1 = .slice A3 k c3 /\ Hid (Turned w wx A3 k c3 vs q m /\ Pr.promoB q = true /\ (q.scope.skus.length <= 8 /\ q.scope.cats.length <= 8 /\ q.tiers.length <= 6 /\ q.parts.length <= 3)))
    case first =>
      refine wp_region_held_drew (S := fun u => Mv.Only W3 u (Mv.one w.heap.size)) (by kernel_rfl) ((Mv.Only.refl W3 _).drew) (fun hS0 => ?_)
      refine pkT 0 24 hS0 ?_
      try simp only [Act.put, pkA, pkB, pkC]
      refine wpAnyH_ready (rs := [1, 2]) (by kernel_rfl) (by simp) ?_
      refine AllReadyH.cons (o := ⟨some 25, _, _, _, _, _⟩) rfl (fun K hK => ?_) ?_
      ·
        go_simp
        refine (HUn.out _ hS0).mono ?_
        rintro e wU ⟨A3, c3, rfl, hoU, hbU⟩
        have hyU : Mv.Only W3 wU (Mv.one w.heap.size) := Mv.Only.below hS0 hbU
        have hzU : Qu.Blk wU w.heap.size 28 #[.string p.id, .int .i64 p.kind, .int .i64 p.priority, .string p.group, .string p.code, .bool p.closes, .slice l.scope.skus.A l.scope.skus.n l.scope.skus.c, .slice l.scope.cats.A l.scope.cats.n l.scope.cats.c, .int .i64 p.least, .int .i64 p.rate, .int .i64 p.amount, .int .i64 p.buy, .int .i64 p.get, .slice l.parts.A l.parts.n l.parts.c, .slice l.tiers.A l.tiers.n l.tiers.c] := (by first | exact hzP.below hbU | exact hz0.below hbU)
        have zU0 := hzU.cell 0
        have zU1 := hzU.cell 1
        have zU2 := hzU.cell 2
        have zU3 := hzU.cell 3
        have zU4 := hzU.cell 4
        have zU5 := hzU.cell 5
        have zU6 := hzU.cell 6
        have zU7 := hzU.cell 7
        have zU8 := hzU.cell 8
        have zU9 := hzU.cell 9
        have zU10 := hzU.cell 10
        have zU11 := hzU.cell 11
        have zU12 := hzU.cell 12
        have zU13 := hzU.cell 13
        have zU14 := hzU.cell 14
        have zUf := hzU.frozen
        go_wp2_with fail
        refine hK.out _ _ (hyU) (fun hS1 => ?_)
        clear hK K
        try simp only [Act.put, pkA, pkB, pkC]
        refine wpAnyH_ready (rs := [2]) (by kernel_rfl) (by simp) ?_
        refine AllReadyH.cons (o := ⟨some 26, _, _, _, _, _⟩) rfl (fun K hK => ?_) AllReadyH.nil
        go_simp
        refine hK.out _ _ (hS1) (fun hS2 => ?_)
        clear hK K
        try simp only [Act.put, pkA, pkB, pkC]
        refine wpAnyH_ready (rs := [3]) (by kernel_rfl) (by simp) ?_
        refine AllReadyH.cons (o := ⟨some 27, _, _, _, _, _⟩) rfl (fun K hK => ?_) AllReadyH.nil
        go_simp
        refine (HPr.out _ hS2).mono ?_
        rintro e wP ⟨m, rfl, hmP, hfP, haP⟩
        have hyP : Mv.Only W3 wP (Mv.one w.heap.size) := Mv.Only.below hS2 haP.below
        have hzP : Qu.Blk wP w.heap.size 28 #[.string p.id, .int .i64 p.kind, .int .i64 p.priority, .string p.group, .string p.code, .bool p.closes, .slice l.scope.skus.A l.scope.skus.n l.scope.skus.c, .slice l.scope.cats.A l.scope.cats.n l.scope.cats.c, .int .i64 p.least, .int .i64 p.rate, .int .i64 p.amount, .int .i64 p.buy, .int .i64 p.get, .slice l.parts.A l.parts.n l.parts.c, .slice l.tiers.A l.tiers.n l.tiers.c] := (by first | exact hzU.below haP.below | exact hz0.below haP.below)
        have zP0 := hzP.cell 0
        have zP1 := hzP.cell 1
        have zP2 := hzP.cell 2
        have zP3 := hzP.cell 3
        have zP4 := hzP.cell 4
        have zP5 := hzP.cell 5
        have zP6 := hzP.cell 6
        have zP7 := hzP.cell 7
        have zP8 := hzP.cell 8
        have zP9 := hzP.cell 9
        have zP10 := hzP.cell 10
        have zP11 := hzP.cell 11
        have zP12 := hzP.cell 12
        have zP13 := hzP.cell 13
        have zP14 := hzP.cell 14
        have zPf := hzP.frozen
        go_wp2_with fail
        refine hK.out _ _ (hyP) (fun hS3 => ?_)
        clear hK K
        try simp only [Act.put, pkA, pkB, pkC]
        refine pkT 4 1 hS3 ?_
        try simp only [Act.put, pkA, pkB, pkC]
        refine wpAnyH_ready (rs := [5]) (by kernel_rfl) (by simp) ?_
        refine AllReadyH.cons (o := ⟨none, _, _, _, _, _⟩) rfl (fun K hK => ?_) AllReadyH.nil
        go_simp
        refine hK.out _ _ (Py.only_puts (q.enc m) _ 0 hS3) (fun hS4 => ?_)
        clear hK K
        try simp only [Act.put, pkA, pkB, pkC]
        refine wpAnyH_done (by kernel_rfl) ?_ _
        go_wp2_with fail
        go_meet
        first | exact ⟨A3, c3, m, rfl, Lib.hid ⟨turned_in (hoU.later haP.below) HLt.out haP hzU.lt hzP ⟨_, _, _, _, _, _, _, _, _, _, _, _, _, _, _, rfl⟩ (HB3.out.trans (hyP.toBelow (Nat.le_of_lt HLt.out) fun j hj e => by have : j = w.heap.size := e; omega)) rfl, hmP, hfP⟩⟩ | exact ⟨A3, c3, m, rfl, Lib.hid ⟨turned_in hoU hzP.lt (anew_on haP hbU) HLt.out hzU ⟨_, _, _, _, _, _, _, _, _, _, _, _, _, _, _, rfl⟩ (HB3.out.trans (hyU.toBelow (Nat.le_of_lt HLt.out) fun j hj e => by have : j = w.heap.size := e; omega)) rfl, hmP, hfP⟩⟩
      refine AllReadyH.cons (o := ⟨some 26, _, _, _, _, _⟩) rfl (fun K hK => ?_) AllReadyH.nil
      go_simp
      refine hK.out _ _ (hS0) (fun hS1 => ?_)
      clear hK K
      try simp only [Act.put, pkA, pkB, pkC]
      refine wpAnyH_ready (rs := [1]) (by kernel_rfl) (by simp) ?_
      refine AllReadyH.cons (o := ⟨some 25, _, _, _, _, _⟩) rfl (fun K hK => ?_) AllReadyH.nil
      go_simp
      refine (HUn.out _ hS1).mono ?_
      rintro e wU ⟨A3, c3, rfl, hoU, hbU⟩
      have hyU : Mv.Only W3 wU (Mv.one w.heap.size) := Mv.Only.below hS1 hbU
      have hzU : Qu.Blk wU w.heap.size 28 #[.string p.id, .int .i64 p.kind, .int .i64 p.priority, .string p.group, .string p.code, .bool p.closes, .slice l.scope.skus.A l.scope.skus.n l.scope.skus.c, .slice l.scope.cats.A l.scope.cats.n l.scope.cats.c, .int .i64 p.least, .int .i64 p.rate, .int .i64 p.amount, .int .i64 p.buy, .int .i64 p.get, .slice l.parts.A l.parts.n l.parts.c, .slice l.tiers.A l.tiers.n l.tiers.c] := (by first | exact hzP.below hbU | exact hz0.below hbU)
      have zU0 := hzU.cell 0
      have zU1 := hzU.cell 1
      have zU2 := hzU.cell 2
      have zU3 := hzU.cell 3
      have zU4 := hzU.cell 4
      have zU5 := hzU.cell 5
      have zU6 := hzU.cell 6
      have zU7 := hzU.cell 7
      have zU8 := hzU.cell 8
      have zU9 := hzU.cell 9
      have zU10 := hzU.cell 10
      have zU11 := hzU.cell 11
      have zU12 := hzU.cell 12
      have zU13 := hzU.cell 13
      have zU14 := hzU.cell 14
      have zUf := hzU.frozen
      go_wp2_with fail
      refine hK.out _ _ (hyU) (fun hS2 => ?_)
      clear hK K
      try simp only [Act.put, pkA, pkB, pkC]
      refine wpAnyH_ready (rs := [3]) (by kernel_rfl) (by simp) ?_
      refine AllReadyH.cons (o := ⟨some 27, _, _, _, _, _⟩) rfl (fun K hK => ?_) AllReadyH.nil
      go_simp
      refine (HPr.out _ hS2).mono ?_
      rintro e wP ⟨m, rfl, hmP, hfP, haP⟩
      have hyP : Mv.Only W3 wP (Mv.one w.heap.size) := Mv.Only.below hS2 haP.below
      have hzP : Qu.Blk wP w.heap.size 28 #[.string p.id, .int .i64 p.kind, .int .i64 p.priority, .string p.group, .string p.code, .bool p.closes, .slice l.scope.skus.A l.scope.skus.n l.scope.skus.c, .slice l.scope.cats.A l.scope.cats.n l.scope.cats.c, .int .i64 p.least, .int .i64 p.rate, .int .i64 p.amount, .int .i64 p.buy, .int .i64 p.get, .slice l.parts.A l.parts.n l.parts.c, .slice l.tiers.A l.tiers.n l.tiers.c] := (by first | exact hzU.below haP.below | exact hz0.below haP.below)
      have zP0 := hzP.cell 0
      have zP1 := hzP.cell 1
      have zP2 := hzP.cell 2
      have zP3 := hzP.cell 3
      have zP4 := hzP.cell 4
      have zP5 := hzP.cell 5
      have zP6 := hzP.cell 6
      have zP7 := hzP.cell 7
      have zP8 := hzP.cell 8
      have zP9 := hzP.cell 9
      have zP10 := hzP.cell 10
      have zP11 := hzP.cell 11
      have zP12 := hzP.cell 12
      have zP13 := hzP.cell 13
      have zP14 := hzP.cell 14
      have zPf := hzP.frozen
      go_wp2_with fail
      refine hK.out _ _ (hyP) (fun hS3 => ?_)
      clear hK K
      try simp only [Act.put, pkA, pkB, pkC]
      refine pkT 4 1 hS3 ?_
      try simp only [Act.put, pkA, pkB, pkC]
      refine wpAnyH_ready (rs := [5]) (by kernel_rfl) (by simp) ?_
      refine AllReadyH.cons (o := ⟨none, _, _, _, _, _⟩) rfl (fun K hK => ?_) AllReadyH.nil
      go_simp
      refine hK.out _ _ (Py.only_puts (q.enc m) _ 0 hS3) (fun hS4 => ?_)
      clear hK K
      try simp only [Act.put, pkA, pkB, pkC]
      refine wpAnyH_done (by kernel_rfl) ?_ _
      go_wp2_with fail
      go_meet
      first | exact ⟨A3, c3, m, rfl, Lib.hid ⟨turned_in (hoU.later haP.below) HLt.out haP hzU.lt hzP ⟨_, _, _, _, _, _, _, _, _, _, _, _, _, _, _, rfl⟩ (HB3.out.trans (hyP.toBelow (Nat.le_of_lt HLt.out) fun j hj e => by have : j = w.heap.size := e; omega)) rfl, hmP, hfP⟩⟩ | exact ⟨A3, c3, m, rfl, Lib.hid ⟨turned_in hoU hzP.lt (anew_on haP hbU) HLt.out hzU ⟨_, _, _, _, _, _, _, _, _, _, _, _, _, _, _, rfl⟩ (HB3.out.trans (hyU.toBelow (Nat.le_of_lt HLt.out) fun j hj e => by have : j = w.heap.size := e; omega)) rfl, hmP, hfP⟩⟩
    case rest =>
      obtain ⟨A3, c3, m, rfl, HT⟩ := hcut
      clear x0 x1 x2 x3 x4 x5 x6 x7 x8 x9 x10 x11 x12 x13 x14
      clear hz0 HPr HUn HLt HB3 HX HB1 HP HU
      have HSq : Hid (Pr.PrmSmall q m) := Lib.hid (small_of HT.out.1.all (by have := HT.out.2.2; omega) (by have := HT.out.2.2; omega) (by have := HT.out.2.2; omega) (by have := HT.out.2.2; omega))
      have H7 := parts_any q m A3 k c3 vs Bb nb cb bs wc HT.out.1.all HT.out.1.urow (by omega) (row_on HBs.out HT.out.1.below) (by omega) (by have := HT.out.2.2; omega)
      unfold PartsT at H7
      have hq4 : q.parts.length <= 3 := by have := HT.out.2.2; omega
      have hk4 : q.kind = 4 := by rw [<- HQe.out]; exact bundle_four p
      have hq1 := (bundle_kind HT.out.2.1 hk4).2.2.1
      have HL60 : Hid (∀ x ∈ partsL vs bs q.parts.length, x.length <= 60) := Lib.hid fun x hx => by
        obtain ⟨b, rfl⟩ := partsL_mem hx
        exact mineL_60 (by have := HT.out.1.urow.len; omega)
      have hln := partsL_length vs bs q.parts.length
      obtain ⟨ls, hls⟩ : ∃ ls, partsL vs bs q.parts.length = ls := ⟨_, rfl⟩
      rw [hls] at H7 HL60 hln
      obtain ⟨np, hnp⟩ : ∃ np, q.parts.length = np := ⟨_, rfl⟩
      rw [hnp] at hq4 hq1 hln
      have HNp := Lib.hid hln
      have H7h := Lib.hid H7
      have hx := HT.out.1.blk
      have x0 := hx.cell 0
      have x1 := hx.cell 1
      have x2 := hx.cell 2
      have x3 := hx.cell 3
      have x4 := hx.cell 4
      have x5 := hx.cell 5
      have x6 := hx.cell 6
      have x7 := hx.cell 7
      have x8 := hx.cell 8
      have x9 := hx.cell 9
      have x10 := hx.cell 10
      have x11 := hx.cell 11
      have x12 := hx.cell 12
      have x13 := hx.cell 13
      have x14 := hx.cell 14
      clear H7 hls hnp hk4 hx hln
      go_wp2_with fail
      refine H7h.out.mono ?_
      rintro e w4 ⟨A9, n9, c9, rfl, hn9, hr9, hf9, hd9, hb4⟩
      clear x0 x1 x2 x3 x4 x5 x6 x7 x8 x9 x10 x11 x12 x13 x14
      rw [HNp.out] at hn9
      subst hn9
      have HR9 := Lib.hid (And.intro (hr9.more (G := (· < w4.heap.size)) fun b hb => hb.2) (And.intro hf9 (And.intro hd9 hb4)))
      clear hr9 hf9 hd9 hb4 H7h
      have HMo := Lib.hid (Py.mod_any how 5 w4 (by decide) (by decide))
      go_wp2_with fail
      refine HMo.out.mono ?_
      rintro e wz ⟨rfl, hw⟩
      obtain rfl := hw.symm
      obtain ⟨r, hr⟩ : ∃ r, Py.modN how 5 = r := ⟨_, rfl⟩
      have HMn : Hid (Py.modN how 5 = r) := Lib.hid hr
      simp only [hr]
      clear hr HMo
      go_upto_block 0 with (fail)
      go_cut [9] from 34 to 42 (fun s9 wx => ∃ (A9 : Option Addr) (n9 c9 : Nat) (ls : List (List Int)), s9 = .slice A9 n9 c9 /\ Hid (Turned w wx A3 k c3 vs q m /\ Prs wx A9 n9 c9 ls))
      case first =>
        by_cases r1 : r = 1
        . have b1 : ((r : Int) == 1) = true := by rw [r1]; rfl
          clear HMn r1
          go_wp2_with (at_builtin; refine wpList_growN (o := ⟨some 38, _, _, _, _, _⟩) (W := w4) (B := wc.heap.size) (n := n9) (v := .slice A9 n9 c9) (xs := ls) (x := []) (cs := [.slice none 0 0]) Ap.ints_t rfl _ _ rfl rfl rfl rfl HR9.out.2.2.1 ⟨none, 0, 0, rfl, Row.nil _ _ _ _, (Ct.nil_lst (K := kInt) (W := w4) (F := fun _ => True)).fit⟩ (by omega) (by omega) HR9.out.2.2.2.size ?_; intro g1 cap w5 hdeep hgrow hfr; have HG5 : Hid (Turned w w5 A3 k c3 vs q m /\ Prs w5 (some ⟨g1, 0, none⟩) (n9 + 1) cap (ls ++ [[]])) := Lib.hid (by
            refine ⟨HT.out.1.on (HR9.out.2.2.2.grown hgrow HR9.out.2.2.2.size fun i hi => (Kd.Own.low HR9.out.2.2.1 i hi).1), ⟨(hdeep.row).more fun b hb => hb.2, Kd.Own.fit hdeep, by omega, fun x hx => ?_⟩⟩
            rcases List.mem_append.1 hx with h1 | h1
            . exact HL60.out x h1
            . rw [List.mem_singleton.1 h1]; decide); clear hdeep hgrow hfr)
          go_meet
          exact ⟨_, _, _, _, rfl, HG5⟩
        . have b1 : ((r : Int) == 1) = false := by rw [beq_eq_false_iff_ne]; omega
          have b1' : ¬ ((r : Int) = 1) := by omega
          by_cases r2 : r = 2
          . have b2 : ((r : Int) == 2) = true := by rw [r2]; rfl
            clear r2
            have sl : ∀ W : World, (Instr.slice 30 (.slice A9 n9 c9) (some (.int .i64 1)) none none).run Tryz.prog W = .ok (.slice (if c9 = 1 then A9 else A9.map (·.add (1 * 1))) (n9 - 1) (c9 - 1)) W := fun W => Kd.slice_from (P := Tryz.prog) (sz := 1) Tryz.underlying30 (fun W => by kernel_rfl) A9 n9 c9 1 (by omega) W
            obtain ⟨A5, hA5⟩ : ∃ A5, (if c9 = 1 then A9 else A9.map (·.add (1 * 1))) = A5 := ⟨_, rfl⟩
            have hdr := HR9.out.1.drop (k := 1) (c := c9) (by omega) HR9.out.2.1.2.1
            have e1 : (kList kInt).size = 1 := rfl
            rw [e1, hA5] at hdr
            rw [hA5] at sl
            have hfit5 : Kd.Fit A5 (n9 - 1) (c9 - 1) := by
              have h1 := HR9.out.2.1
              refine ⟨fun e => ?_, by have := h1.2.1; omega, by have := h1.2.2; omega⟩
              rw [<- hA5] at e
              split at e
              . rename_i hc
                have := h1.2.1
                omega
              . cases hA9 : A9 with
                | none =>
                  have h2 := h1.1 hA9
                  omega
                | some a => rw [hA9] at e; cases e
            have HG5 : Hid (Turned w w4 A3 k c3 vs q m /\ Prs w4 A5 (n9 - 1) (c9 - 1) (ls.drop 1)) := Lib.hid ⟨HT.out.1.on HR9.out.2.2.2, ⟨hdr, hfit5, by omega, fun x hx => HL60.out x (List.mem_of_mem_drop hx)⟩⟩
            clear hdr e1 hfit5 hA5 HMn
            go_wp2_with fail
            go_meet
            exact ⟨_, _, _, _, rfl, HG5⟩
          . have b2 : ((r : Int) == 2) = false := by rw [beq_eq_false_iff_ne]; omega
            have b2' : ¬ ((r : Int) = 2) := by omega
            have HG5 : Hid (Turned w w4 A3 k c3 vs q m /\ Prs w4 A9 n9 c9 ls) := Lib.hid ⟨HT.out.1.on HR9.out.2.2.2, ⟨HR9.out.1, HR9.out.2.1, by omega, HL60.out⟩⟩
            clear HMn
            go_wp2_with fail
            go_meet
            exact ⟨_, _, _, _, rfl, HG5⟩
      case rest =>
        clear HR9 HL60 HNp HMn hq4 hq1
        obtain ⟨A6, n6, c6, ls6, rfl, HG⟩ := hcut
        have HT7 := Lib.hid HG.out.1
        have HPs := Lib.hid HG.out.2
        have h6 := HPs.out.few
        have hx := HT7.out.blk
        have x0 := hx.cell 0
        have x1 := hx.cell 1
        have x2 := hx.cell 2
        have x3 := hx.cell 3
        have x4 := hx.cell 4
        have x5 := hx.cell 5
        have x6 := hx.cell 6
        have x7 := hx.cell 7
        have x8 := hx.cell 8
        have x9 := hx.cell 9
        have x10 := hx.cell 10
        have x11 := hx.cell 11
        have x12 := hx.cell 12
        have x13 := hx.cell 13
        have x14 := hx.cell 14
        clear HT HG hx
        have H8 := lbundle_any q m A3 k c3 vs A6 n6 c6 ls6 wc HT7.out.all HSq.out HT7.out.urow HT7.out.fit HPs.out.row (by omega) (by omega) (fun x hx => by have := HPs.out.each x hx; omega)
        have H9 := fun W (hb : Below wc.heap.size wc W) => rbundle_any q m A3 k c3 vs A6 n6 c6 ls6 W (HT7.out.on hb).all HSq.out (HT7.out.on hb).urow HT7.out.fit (row_on HPs.out.row hb) (by omega) (by omega) (fun x hx => by have := HPs.out.each x hx; omega)
        unfold Ko.Told2 at H8 H9
        obtain ⟨ys, hys⟩ : ∃ ys, (bundleU q vs ls6).1 = ys := ⟨_, rfl⟩
        obtain ⟨z, hz⟩ : ∃ z, (bundleU q vs ls6).2 = z := ⟨_, rfl⟩
        have hyl : ys.length = vs.length := by rw [<- hys]; exact (keep_bundle q (pl := ls6) HVs.out).len
        rw [HT7.out.urow.len] at hyl
        simp only [hys, hz, hyl] at H8 H9
        have H8h := Lib.hid H8
        have H9h := Lib.hid H9
        clear H8 H9 hys hz hyl
        go_wp2_with fail
        refine H8h.out.mono ?_
        rintro e w8 ⟨A8, c8, rfl, ho8, hb8⟩
        clear x0 x1 x2 x3 x4 x5 x6 x7 x8 x9 x10 x11 x12 x13 x14
        have HR8 := Lib.hid ho8.read
        have HB8 := Lib.hid (HT7.out.below.trans (hb8.mono HT7.out.below.size))
        have H9i := Lib.hid (H9h.out w8 hb8)
        have hx := (HT7.out.on hb8).blk
        have x0 := hx.cell 0
        have x1 := hx.cell 1
        have x2 := hx.cell 2
        have x3 := hx.cell 3
        have x4 := hx.cell 4
        have x5 := hx.cell 5
        have x6 := hx.cell 6
        have x7 := hx.cell 7
        have x8 := hx.cell 8
        have x9 := hx.cell 9
        have x10 := hx.cell 10
        have x11 := hx.cell 11
        have x12 := hx.cell 12
        have x13 := hx.cell 13
        have x14 := hx.cell 14
        clear hb8 ho8 H8h H9h hx HT7
        go_wp2_with fail
        refine H9i.out.mono ?_
        rintro e w9 ⟨A9, c9, rfl, ho9, hb9⟩
        clear x0 x1 x2 x3 x4 x5 x6 x7 x8 x9 x10 x11 x12 x13 x14
        have HR89 := Lib.hid (row_on HR8.out hb9)
        have HR9 := Lib.hid ho9.read
        have HB9 := Lib.hid (HB8.out.trans (hb9.mono HB8.out.size))
        have HA := Lib.hid (awake_any w9)
        clear hb9 ho9 H9i
        go_wp2_with fail
        refine HA.out.mono ?_
        rintro e w10 ⟨rfl, hb10⟩
        have HB10 := Lib.hid (HB9.out.trans (hb10.mono HB9.out.size))
        have H11 := Ap.Unt.plain_any A8 A9 k k c8 c9 ys ys _ w10 (row_on HR89.out hb10) (row_on HR9.out hb10) (fun b hb => hb) (by omega)
        rw [Kd.eqL_refl (fun y => Ap.Unt.sameB_refl y)] at H11
        have H11h := Lib.hid H11
        clear hb10 HA H11
        go_wp2_with fail
        refine H11h.out.mono ?_
        rintro e w11 ⟨rfl, hb11⟩
        have HB11 := Lib.hid (HB10.out.trans (hb11.mono HB10.out.size))
        clear hb11 H11h
        go_wp2
        go_ret
        exact ⟨rfl, HB11.out⟩
set_option maxRecDepth 100000 in
theorem lifted (os : Os) (started : os.Started) (H : Type) (enc : TypeId × Value -> H) :
    ReturnsInHanded {} Tryz.checked os 5 .any (Rows.dealBundleSpec.pre6 enc Tryz.prog Tryz.f5 Rows.dealBundleRow.domain false) (Rows.dealBundleSpec.post enc Tryz.prog Tryz.f5 false true false false) := by
  refine returnsInHanded_of_change (C := Tryz.checked) own started (by kernel_rfl) Tryz.func5
    (ChangeSpec.witness6 (enc := enc) (C := Tryz.checked) false ⟨#[], #[.agg #[.string ⟨#[]⟩, .int .i64 0, .int .i64 0, .string ⟨#[]⟩, .string ⟨#[]⟩, .bool false, .slice none 0 0, .slice none 0 0, .int .i64 0, .int .i64 0, .int .i64 0, .int .i64 0, .int .i64 0, .slice none 0 0, .slice none 0 0], .slice none 0 0, .slice none 0 0, .int .i64 0], []⟩ 8 (by kernel_rfl) (by kernel_rfl) (by kernel_rfl) (by kernel_rfl)) ?_
  intro W base args ds gs before hval0 hW hcnd _
  have hval : ∀ (j : Nat) t v, Tryz.f5.params[j]? = some t -> args[j]? = some v -> Value.okWide Tryz.prog W .any base t v := hval0
  have hW' := hW
  obtain ⟨p, q, hA0, hV, rfl, hfz, hnd⟩ := hW
  have hA : DataW.TrodAll enc Tryz.prog W 0 (fun _ => true) true Tryz.f5.params.toList args.toList ds p := hA0
  rw [Tryz.params5] at hA hval
  obtain ⟨v0, vs0, d0, ds0, p0, q0, hargs, rfl, rfl, h0, r0⟩ := trodAll_cons hA
  obtain ⟨v1, vs1, d1, ds1, p1, q1, rfl, rfl, rfl, h1, r1⟩ := trodAll_cons r0
  obtain ⟨v2, vs2, d2, ds2, p2, q2, rfl, rfl, rfl, h2, r2⟩ := trodAll_cons r1
  obtain ⟨v3, vs3, d3, ds3, p3, q3, rfl, rfl, rfl, h3, r3⟩ := trodAll_cons r2
  obtain ⟨rfl, rfl, rfl⟩ := trodAll_nil r3
  obtain rfl : args = #[v0, v1, v2, v3] := by cases args; simp_all
  obtain ⟨cs0, p0, rfl, r0⟩ := Kd.open_struct Ap.reads_Prm Tryz.underlying28 (hval 0 28 v0 rfl rfl) h0; obtain ⟨l0, rfl, x0⟩ := Ap.Prm_rep.1 r0
  obtain ⟨A1, n1, c1, xs1, rfl, x1, y1⟩ := Kd.open_list Ap.reads_Unt Tryz.underlying29 (by decide) (hval 1 29 v1 rfl rfl) h1
  obtain ⟨A2, n2, c2, xs2, rfl, x2, y2⟩ := Kd.open_list (reads_w64 Tryz.underlying44 (by kernel_rfl)) Tryz.underlying49 (by decide) (hval 2 49 v2 rfl rfl) h2
  obtain ⟨a3, rfl, _, _, w3⟩ := open_int Tryz.underlying3 (hval 3 3 v3 rfl rfl) h3
  refine (walk W p0 l0 x0 A1 n1 c1 xs1 x1 y1 A2 n2 c2 xs2 x2 y2 a3 w3).mono fun e W' ⟨he, hb⟩ => ?_
  subst he
  exact ⟨_, rfl, Hk.closeLaw (tb := 4) (by kernel_rfl) (by kernel_rfl) rfl rfl rfl Tryz.underlying4 hW' hb⟩
theorem over : Rows.dealBundleRow.holds Tryz.pinned (OpenSpec.ofChange Rows.dealBundleSpec) :=
  OpenClaim.holds_of_wide 5 Tryz.f5 rfl rfl rfl rfl rfl rfl rfl ⟨rfl, rfl, rfl, rfl, rfl⟩ rfl rfl rfl rfl rfl (by kernel_rfl) Tryz.func5 (by kernel_rfl)
    (of_decide_eq_true (by kernel_rfl)) (by unfold Func.isWrapper; first | (rw [if_pos (by decide +kernel)]; kernel_rfl) | (rw [if_neg (by decide +kernel)]; exact ⟨rfl, rfl⟩))
    (fun os started H enc _ => lifted os started H enc)
theorem proved : Rows.DealBundleSaid :=
  over
end Go.Proofs.YtljmddjlnlmenaaGreat.dealBundle
