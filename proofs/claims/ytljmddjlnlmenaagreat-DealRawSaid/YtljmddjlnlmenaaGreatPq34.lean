/- The document's Promo: whether a promotion may be. (made by wip/gen-rpromo.py) -/
import Derived.Test.YtljmddjlnlmenaaGreatPq33
set_option maxRecDepth 100000
set_option linter.unusedVariables false

namespace Go.Proofs.YtljmddjlnlmenaaGreat.Pr
open Go.ChangeShapes Go.WideShapes Go.ChangeAt Go.RowKit
open Ap (Scp Prt Tir Prm kPrt kTir kPrm row_Prt row_Tir row_Prm)
open Kd (Row Fit Lst Sl kStr kInt kList row_str)
set_option maxRecDepth 1000000 in
set_option maxHeartbeats 8000000 in
theorem rpromo_any (p : Prm) (l : Prm.Lay) (w : World) (h : Prm.Holds w (· < w.heap.size) p l) (hS : PrmSmall p l) :
    Calls Tryz.prog 31 #[.agg #[.string p.id, .int .i64 p.kind, .int .i64 p.priority, .string p.group, .string p.code, .bool p.closes, .slice l.scope.skus.A l.scope.skus.n l.scope.skus.c, .slice l.scope.cats.A l.scope.cats.n l.scope.cats.c, .int .i64 p.least, .int .i64 p.rate, .int .i64 p.amount, .int .i64 p.buy, .int .i64 p.get, .slice l.parts.A l.parts.n l.parts.c, .slice l.tiers.A l.tiers.n l.tiers.c]] w fun e w' => e = .returned (.bool (promoB p)) /\ Below w.heap.size w w' := by
  obtain ⟨w1, hw1⟩ : ∃ w1, w.alloc (.cells #[.string p.id, .int .i64 p.kind, .int .i64 p.priority, .string p.group, .string p.code, .bool p.closes, .slice l.scope.skus.A l.scope.skus.n l.scope.skus.c, .slice l.scope.cats.A l.scope.cats.n l.scope.cats.c, .int .i64 p.least, .int .i64 p.rate, .int .i64 p.amount, .int .i64 p.buy, .int .i64 p.get, .slice l.parts.A l.parts.n l.parts.c, .slice l.tiers.A l.tiers.n l.tiers.c] 28) = w1 := ⟨_, rfl⟩
  have hb1 : Below w.heap.size w w1 := by rw [<- hw1]; exact (Below.refl _ _).alloc (Nat.le_refl _) _
  have hx : Qu.Blk w1 w.heap.size 28 #[.string p.id, .int .i64 p.kind, .int .i64 p.priority, .string p.group, .string p.code, .bool p.closes, .slice l.scope.skus.A l.scope.skus.n l.scope.skus.c, .slice l.scope.cats.A l.scope.cats.n l.scope.cats.c, .int .i64 p.least, .int .i64 p.rate, .int .i64 p.amount, .int .i64 p.buy, .int .i64 p.get, .slice l.parts.A l.parts.n l.parts.c, .slice l.tiers.A l.tiers.n l.tiers.c] := by rw [<- hw1]; exact Qu.Blk.new w _ _
  have x0 := hx.cell 0
  have x1 := hx.cell 1
  have x2 := hx.cell 2
  have x3 := hx.cell 3
  have x4 := hx.cell 4
  have x6 := hx.cell 6
  have x7 := hx.cell 7
  have x8 := hx.cell 8
  have HX := Lib.hid hx
  have HB1 := Lib.hid hb1
  have hh1 := holds_later h hb1
  have HH := Lib.hid (And.intro h hS)
  have NI := Lib.hid (fun W => Py.rname_any p.id W h.id)
  have NG := Lib.hid (fun W => Py.rname_any p.group W h.group)
  have NC := Lib.hid (fun W => Py.rname_any p.code W h.code)
  have HS := Lib.hid (Sc.rscope_any p.scope l.scope w1 hh1.scope hS.scope)
  have hI : ∀ W, Calls Tryz.prog 66 #[.int .i64 p.least, .int .i64 10000000000000] W fun e w' => e = .returned (.bool (inB p.least 10000000000000)) /\ w' = W := fun W => Py.rin_any p.least 10000000000000 W
  have HI := Lib.hid hI
  have HD := Lib.hid (headB_def p)
  clear hx hb1 h hS hh1 hI
  go_enter Tryz.func31, Tryz.ntmps31
  go_upto_region 1 with (fail)
  clear hw1
  go_cut [67] (fun s67 wx => ∃ bb : Bool, s67 = .bool bb /\ Hid (bb = !headB p /\ Qu.Blk wx w.heap.size 28 #[.string p.id, .int .i64 p.kind, .int .i64 p.priority, .string p.group, .string p.code, .bool p.closes, .slice l.scope.skus.A l.scope.skus.n l.scope.skus.c, .slice l.scope.cats.A l.scope.cats.n l.scope.cats.c, .int .i64 p.least, .int .i64 p.rate, .int .i64 p.amount, .int .i64 p.buy, .int .i64 p.get, .slice l.parts.A l.parts.n l.parts.c, .slice l.tiers.A l.tiers.n l.tiers.c] /\ Below w.heap.size w wx))
  case first =>
    as_aux_lemma =>
      cases n1 : Sr.name p.id with
      | false =>
        simp only [n1] at NI
        have HL : Hid (headB p = false) := Lib.hid (by rw [HD.out, n1]; rfl)
        go_wp2_with fail
        refine (NI.out _).mono ?_
        rintro e v1 ⟨rfl, rfl⟩
        have HX2 := Lib.hid (And.intro HX.out HB1.out)
        go_wp2_with fail
        go_meet
        exact ⟨true, rfl, Lib.hid ⟨by rw [HL.out]; rfl, HX2.out⟩⟩
      | true =>
        simp only [n1] at NI
        cases c1 : decide (p.kind < 1) with
        | true =>
          have D1 : Hid (decide (1 <= p.kind) = false) := Lib.hid (decide_eq_false (by have := of_decide_eq_true c1; omega))
          have HL : Hid (headB p = false) := Lib.hid (by rw [HD.out, n1, D1.out]; rfl)
          go_wp2_with fail
          refine (NI.out _).mono ?_
          rintro e v1 ⟨rfl, rfl⟩
          have HX2 := Lib.hid (And.intro HX.out HB1.out)
          go_wp2_with fail
          go_meet
          exact ⟨true, rfl, Lib.hid ⟨by rw [HL.out]; rfl, HX2.out⟩⟩
        | false =>
          have D1 : Hid (decide (1 <= p.kind) = true) := Lib.hid (decide_eq_true (by have := of_decide_eq_false c1; omega))
          cases c2 : decide (7 < p.kind) with
          | true =>
            have D2 : Hid (decide (p.kind <= 7) = false) := Lib.hid (decide_eq_false (by have := of_decide_eq_true c2; omega))
            have HL : Hid (headB p = false) := Lib.hid (by rw [HD.out, n1, D1.out, D2.out]; rfl)
            go_wp2_with fail
            refine (NI.out _).mono ?_
            rintro e v1 ⟨rfl, rfl⟩
            have HX2 := Lib.hid (And.intro HX.out HB1.out)
            go_wp2_with fail
            go_meet
            exact ⟨true, rfl, Lib.hid ⟨by rw [HL.out]; rfl, HX2.out⟩⟩
          | false =>
            have D2 : Hid (decide (p.kind <= 7) = true) := Lib.hid (decide_eq_true (by have := of_decide_eq_false c2; omega))
            cases c3 : decide (p.priority < 0) with
            | true =>
              have D3 : Hid (decide (0 <= p.priority) = false) := Lib.hid (decide_eq_false (by have := of_decide_eq_true c3; omega))
              have HL : Hid (headB p = false) := Lib.hid (by rw [HD.out, n1, D1.out, D2.out, D3.out]; rfl)
              go_wp2_with fail
              refine (NI.out _).mono ?_
              rintro e v1 ⟨rfl, rfl⟩
              have HX2 := Lib.hid (And.intro HX.out HB1.out)
              go_wp2_with fail
              go_meet
              exact ⟨true, rfl, Lib.hid ⟨by rw [HL.out]; rfl, HX2.out⟩⟩
            | false =>
              have D3 : Hid (decide (0 <= p.priority) = true) := Lib.hid (decide_eq_true (by have := of_decide_eq_false c3; omega))
              cases c4 : decide (1000 < p.priority) with
              | true =>
                have D4 : Hid (decide (p.priority <= 1000) = false) := Lib.hid (decide_eq_false (by have := of_decide_eq_true c4; omega))
                have HL : Hid (headB p = false) := Lib.hid (by rw [HD.out, n1, D1.out, D2.out, D3.out, D4.out]; rfl)
                go_wp2_with fail
                refine (NI.out _).mono ?_
                rintro e v1 ⟨rfl, rfl⟩
                have HX2 := Lib.hid (And.intro HX.out HB1.out)
                go_wp2_with fail
                go_meet
                exact ⟨true, rfl, Lib.hid ⟨by rw [HL.out]; rfl, HX2.out⟩⟩
              | false =>
                have D4 : Hid (decide (p.priority <= 1000) = true) := Lib.hid (decide_eq_true (by have := of_decide_eq_false c4; omega))
                cases b5 : p.group.toList.isEmpty with
                | true =>
                  have B5 : Hid (blankB p.group = true) := Lib.hid (by unfold blankB; rw [b5]; rfl)
                  have g5 : p.group.toList = [] := List.isEmpty_iff.1 b5
                  clear b5
                  cases b6 : p.code.toList.isEmpty with
                  | true =>
                    have B6 : Hid (blankB p.code = true) := Lib.hid (by unfold blankB; rw [b6]; rfl)
                    have g6 : p.code.toList = [] := List.isEmpty_iff.1 b6
                    clear b6
                    cases s1 : Sc.scopeB p.scope with
                    | false =>
                      rw [s1] at HS
                      have HL : Hid (headB p = false) := Lib.hid (by rw [HD.out, n1, D1.out, D2.out, D3.out, D4.out, B5.out, B6.out, s1]; rfl)
                      go_wp2_with fail
                      refine (NI.out _).mono ?_
                      rintro e v1 ⟨rfl, rfl⟩
                      go_wp2_with fail
                      refine (HS.out).mono ?_
                      rintro e v2 ⟨rfl, hb2⟩
                      have HX2 := Lib.hid (And.intro (HX.out.below hb2) (HB1.out.trans (hb2.mono HB1.out.size)))
                      have x8' := HX2.out.1.cell 8
                      clear hb2
                      go_wp2_with fail
                      go_meet
                      exact ⟨true, rfl, Lib.hid ⟨by rw [HL.out]; rfl, HX2.out⟩⟩
                    | true =>
                      rw [s1] at HS
                      cases i1 : inB p.least 10000000000000 with
                      | false =>
                        simp only [i1] at HI
                        have HL : Hid (headB p = false) := Lib.hid (by rw [HD.out, n1, D1.out, D2.out, D3.out, D4.out, B5.out, B6.out, s1, i1]; rfl)
                        go_wp2_with fail
                        refine (NI.out _).mono ?_
                        rintro e v1 ⟨rfl, rfl⟩
                        go_wp2_with fail
                        refine (HS.out).mono ?_
                        rintro e v2 ⟨rfl, hb2⟩
                        have HX2 := Lib.hid (And.intro (HX.out.below hb2) (HB1.out.trans (hb2.mono HB1.out.size)))
                        have x8' := HX2.out.1.cell 8
                        clear hb2
                        go_wp2_with fail
                        refine (HI.out _).mono ?_
                        rintro e v3 ⟨rfl, rfl⟩
                        go_wp2_with fail
                        go_meet
                        exact ⟨true, rfl, Lib.hid ⟨by rw [HL.out]; rfl, HX2.out⟩⟩
                      | true =>
                        simp only [i1] at HI
                        have HL : Hid (headB p = true) := Lib.hid (by rw [HD.out, n1, D1.out, D2.out, D3.out, D4.out, B5.out, B6.out, s1, i1]; rfl)
                        go_wp2_with fail
                        refine (NI.out _).mono ?_
                        rintro e v1 ⟨rfl, rfl⟩
                        go_wp2_with fail
                        refine (HS.out).mono ?_
                        rintro e v2 ⟨rfl, hb2⟩
                        have HX2 := Lib.hid (And.intro (HX.out.below hb2) (HB1.out.trans (hb2.mono HB1.out.size)))
                        have x8' := HX2.out.1.cell 8
                        clear hb2
                        go_wp2_with fail
                        refine (HI.out _).mono ?_
                        rintro e v3 ⟨rfl, rfl⟩
                        go_wp2_with fail
                        go_meet
                        exact ⟨false, rfl, Lib.hid ⟨by rw [HL.out]; rfl, HX2.out⟩⟩
                  | false =>
                    have g6 : ¬ p.code.toList = [] := fun e => by rw [e] at b6; cases b6
                    cases m6 : Sr.name p.code with
                    | true =>
                      simp only [m6] at NC
                      have B6 : Hid (blankB p.code = true) := Lib.hid (by unfold blankB; rw [b6, m6]; rfl)
                      clear m6
                      cases s1 : Sc.scopeB p.scope with
                      | false =>
                        rw [s1] at HS
                        have HL : Hid (headB p = false) := Lib.hid (by rw [HD.out, n1, D1.out, D2.out, D3.out, D4.out, B5.out, B6.out, s1]; rfl)
                        go_wp2_with fail
                        refine (NI.out _).mono ?_
                        rintro e v1 ⟨rfl, rfl⟩
                        go_wp2_with fail
                        refine (NC.out _).mono ?_
                        rintro e v2 ⟨rfl, rfl⟩
                        go_wp2_with fail
                        refine (HS.out).mono ?_
                        rintro e v3 ⟨rfl, hb3⟩
                        have HX2 := Lib.hid (And.intro (HX.out.below hb3) (HB1.out.trans (hb3.mono HB1.out.size)))
                        have x8' := HX2.out.1.cell 8
                        clear hb3
                        go_wp2_with fail
                        go_meet
                        exact ⟨true, rfl, Lib.hid ⟨by rw [HL.out]; rfl, HX2.out⟩⟩
                      | true =>
                        rw [s1] at HS
                        cases i1 : inB p.least 10000000000000 with
                        | false =>
                          simp only [i1] at HI
                          have HL : Hid (headB p = false) := Lib.hid (by rw [HD.out, n1, D1.out, D2.out, D3.out, D4.out, B5.out, B6.out, s1, i1]; rfl)
                          go_wp2_with fail
                          refine (NI.out _).mono ?_
                          rintro e v1 ⟨rfl, rfl⟩
                          go_wp2_with fail
                          refine (NC.out _).mono ?_
                          rintro e v2 ⟨rfl, rfl⟩
                          go_wp2_with fail
                          refine (HS.out).mono ?_
                          rintro e v3 ⟨rfl, hb3⟩
                          have HX2 := Lib.hid (And.intro (HX.out.below hb3) (HB1.out.trans (hb3.mono HB1.out.size)))
                          have x8' := HX2.out.1.cell 8
                          clear hb3
                          go_wp2_with fail
                          refine (HI.out _).mono ?_
                          rintro e v4 ⟨rfl, rfl⟩
                          go_wp2_with fail
                          go_meet
                          exact ⟨true, rfl, Lib.hid ⟨by rw [HL.out]; rfl, HX2.out⟩⟩
                        | true =>
                          simp only [i1] at HI
                          have HL : Hid (headB p = true) := Lib.hid (by rw [HD.out, n1, D1.out, D2.out, D3.out, D4.out, B5.out, B6.out, s1, i1]; rfl)
                          go_wp2_with fail
                          refine (NI.out _).mono ?_
                          rintro e v1 ⟨rfl, rfl⟩
                          go_wp2_with fail
                          refine (NC.out _).mono ?_
                          rintro e v2 ⟨rfl, rfl⟩
                          go_wp2_with fail
                          refine (HS.out).mono ?_
                          rintro e v3 ⟨rfl, hb3⟩
                          have HX2 := Lib.hid (And.intro (HX.out.below hb3) (HB1.out.trans (hb3.mono HB1.out.size)))
                          have x8' := HX2.out.1.cell 8
                          clear hb3
                          go_wp2_with fail
                          refine (HI.out _).mono ?_
                          rintro e v4 ⟨rfl, rfl⟩
                          go_wp2_with fail
                          go_meet
                          exact ⟨false, rfl, Lib.hid ⟨by rw [HL.out]; rfl, HX2.out⟩⟩
                    | false =>
                      simp only [m6] at NC
                      have B6 : Hid (blankB p.code = false) := Lib.hid (by unfold blankB; rw [b6, m6]; rfl)
                      clear m6
                      have HL : Hid (headB p = false) := Lib.hid (by rw [HD.out, n1, D1.out, D2.out, D3.out, D4.out, B5.out, B6.out]; rfl)
                      go_wp2_with fail
                      refine (NI.out _).mono ?_
                      rintro e v1 ⟨rfl, rfl⟩
                      go_wp2_with fail
                      refine (NC.out _).mono ?_
                      rintro e v2 ⟨rfl, rfl⟩
                      have HX2 := Lib.hid (And.intro HX.out HB1.out)
                      go_wp2_with fail
                      go_meet
                      exact ⟨true, rfl, Lib.hid ⟨by rw [HL.out]; rfl, HX2.out⟩⟩
                | false =>
                  have g5 : ¬ p.group.toList = [] := fun e => by rw [e] at b5; cases b5
                  cases m5 : Sr.name p.group with
                  | true =>
                    simp only [m5] at NG
                    have B5 : Hid (blankB p.group = true) := Lib.hid (by unfold blankB; rw [b5, m5]; rfl)
                    clear m5
                    cases b6 : p.code.toList.isEmpty with
                    | true =>
                      have B6 : Hid (blankB p.code = true) := Lib.hid (by unfold blankB; rw [b6]; rfl)
                      have g6 : p.code.toList = [] := List.isEmpty_iff.1 b6
                      clear b6
                      cases s1 : Sc.scopeB p.scope with
                      | false =>
                        rw [s1] at HS
                        have HL : Hid (headB p = false) := Lib.hid (by rw [HD.out, n1, D1.out, D2.out, D3.out, D4.out, B5.out, B6.out, s1]; rfl)
                        go_wp2_with fail
                        refine (NI.out _).mono ?_
                        rintro e v1 ⟨rfl, rfl⟩
                        go_wp2_with fail
                        refine (NG.out _).mono ?_
                        rintro e v2 ⟨rfl, rfl⟩
                        go_wp2_with fail
                        refine (HS.out).mono ?_
                        rintro e v3 ⟨rfl, hb3⟩
                        have HX2 := Lib.hid (And.intro (HX.out.below hb3) (HB1.out.trans (hb3.mono HB1.out.size)))
                        have x8' := HX2.out.1.cell 8
                        clear hb3
                        go_wp2_with fail
                        go_meet
                        exact ⟨true, rfl, Lib.hid ⟨by rw [HL.out]; rfl, HX2.out⟩⟩
                      | true =>
                        rw [s1] at HS
                        cases i1 : inB p.least 10000000000000 with
                        | false =>
                          simp only [i1] at HI
                          have HL : Hid (headB p = false) := Lib.hid (by rw [HD.out, n1, D1.out, D2.out, D3.out, D4.out, B5.out, B6.out, s1, i1]; rfl)
                          go_wp2_with fail
                          refine (NI.out _).mono ?_
                          rintro e v1 ⟨rfl, rfl⟩
                          go_wp2_with fail
                          refine (NG.out _).mono ?_
                          rintro e v2 ⟨rfl, rfl⟩
                          go_wp2_with fail
                          refine (HS.out).mono ?_
                          rintro e v3 ⟨rfl, hb3⟩
                          have HX2 := Lib.hid (And.intro (HX.out.below hb3) (HB1.out.trans (hb3.mono HB1.out.size)))
                          have x8' := HX2.out.1.cell 8
                          clear hb3
                          go_wp2_with fail
                          refine (HI.out _).mono ?_
                          rintro e v4 ⟨rfl, rfl⟩
                          go_wp2_with fail
                          go_meet
                          exact ⟨true, rfl, Lib.hid ⟨by rw [HL.out]; rfl, HX2.out⟩⟩
                        | true =>
                          simp only [i1] at HI
                          have HL : Hid (headB p = true) := Lib.hid (by rw [HD.out, n1, D1.out, D2.out, D3.out, D4.out, B5.out, B6.out, s1, i1]; rfl)
                          go_wp2_with fail
                          refine (NI.out _).mono ?_
                          rintro e v1 ⟨rfl, rfl⟩
                          go_wp2_with fail
                          refine (NG.out _).mono ?_
                          rintro e v2 ⟨rfl, rfl⟩
                          go_wp2_with fail
                          refine (HS.out).mono ?_
                          rintro e v3 ⟨rfl, hb3⟩
                          have HX2 := Lib.hid (And.intro (HX.out.below hb3) (HB1.out.trans (hb3.mono HB1.out.size)))
                          have x8' := HX2.out.1.cell 8
                          clear hb3
                          go_wp2_with fail
                          refine (HI.out _).mono ?_
                          rintro e v4 ⟨rfl, rfl⟩
                          go_wp2_with fail
                          go_meet
                          exact ⟨false, rfl, Lib.hid ⟨by rw [HL.out]; rfl, HX2.out⟩⟩
                    | false =>
                      have g6 : ¬ p.code.toList = [] := fun e => by rw [e] at b6; cases b6
                      cases m6 : Sr.name p.code with
                      | true =>
                        simp only [m6] at NC
                        have B6 : Hid (blankB p.code = true) := Lib.hid (by unfold blankB; rw [b6, m6]; rfl)
                        clear m6
                        cases s1 : Sc.scopeB p.scope with
                        | false =>
                          rw [s1] at HS
                          have HL : Hid (headB p = false) := Lib.hid (by rw [HD.out, n1, D1.out, D2.out, D3.out, D4.out, B5.out, B6.out, s1]; rfl)
                          go_wp2_with fail
                          refine (NI.out _).mono ?_
                          rintro e v1 ⟨rfl, rfl⟩
                          go_wp2_with fail
                          refine (NG.out _).mono ?_
                          rintro e v2 ⟨rfl, rfl⟩
                          go_wp2_with fail
                          refine (NC.out _).mono ?_
                          rintro e v3 ⟨rfl, rfl⟩
                          go_wp2_with fail
                          refine (HS.out).mono ?_
                          rintro e v4 ⟨rfl, hb4⟩
                          have HX2 := Lib.hid (And.intro (HX.out.below hb4) (HB1.out.trans (hb4.mono HB1.out.size)))
                          have x8' := HX2.out.1.cell 8
                          clear hb4
                          go_wp2_with fail
                          go_meet
                          exact ⟨true, rfl, Lib.hid ⟨by rw [HL.out]; rfl, HX2.out⟩⟩
                        | true =>
                          rw [s1] at HS
                          cases i1 : inB p.least 10000000000000 with
                          | false =>
                            simp only [i1] at HI
                            have HL : Hid (headB p = false) := Lib.hid (by rw [HD.out, n1, D1.out, D2.out, D3.out, D4.out, B5.out, B6.out, s1, i1]; rfl)
                            go_wp2_with fail
                            refine (NI.out _).mono ?_
                            rintro e v1 ⟨rfl, rfl⟩
                            go_wp2_with fail
                            refine (NG.out _).mono ?_
                            rintro e v2 ⟨rfl, rfl⟩
                            go_wp2_with fail
                            refine (NC.out _).mono ?_
                            rintro e v3 ⟨rfl, rfl⟩
                            go_wp2_with fail
                            refine (HS.out).mono ?_
                            rintro e v4 ⟨rfl, hb4⟩
                            have HX2 := Lib.hid (And.intro (HX.out.below hb4) (HB1.out.trans (hb4.mono HB1.out.size)))
                            have x8' := HX2.out.1.cell 8
                            clear hb4
                            go_wp2_with fail
                            refine (HI.out _).mono ?_
                            rintro e v5 ⟨rfl, rfl⟩
                            go_wp2_with fail
                            go_meet
                            exact ⟨true, rfl, Lib.hid ⟨by rw [HL.out]; rfl, HX2.out⟩⟩
                          | true =>
                            simp only [i1] at HI
                            have HL : Hid (headB p = true) := Lib.hid (by rw [HD.out, n1, D1.out, D2.out, D3.out, D4.out, B5.out, B6.out, s1, i1]; rfl)
                            go_wp2_with fail
                            refine (NI.out _).mono ?_
                            rintro e v1 ⟨rfl, rfl⟩
                            go_wp2_with fail
                            refine (NG.out _).mono ?_
                            rintro e v2 ⟨rfl, rfl⟩
                            go_wp2_with fail
                            refine (NC.out _).mono ?_
                            rintro e v3 ⟨rfl, rfl⟩
                            go_wp2_with fail
                            refine (HS.out).mono ?_
                            rintro e v4 ⟨rfl, hb4⟩
                            have HX2 := Lib.hid (And.intro (HX.out.below hb4) (HB1.out.trans (hb4.mono HB1.out.size)))
                            have x8' := HX2.out.1.cell 8
                            clear hb4
                            go_wp2_with fail
                            refine (HI.out _).mono ?_
                            rintro e v5 ⟨rfl, rfl⟩
                            go_wp2_with fail
                            go_meet
                            exact ⟨false, rfl, Lib.hid ⟨by rw [HL.out]; rfl, HX2.out⟩⟩
                      | false =>
                        simp only [m6] at NC
                        have B6 : Hid (blankB p.code = false) := Lib.hid (by unfold blankB; rw [b6, m6]; rfl)
                        clear m6
                        have HL : Hid (headB p = false) := Lib.hid (by rw [HD.out, n1, D1.out, D2.out, D3.out, D4.out, B5.out, B6.out]; rfl)
                        go_wp2_with fail
                        refine (NI.out _).mono ?_
                        rintro e v1 ⟨rfl, rfl⟩
                        go_wp2_with fail
                        refine (NG.out _).mono ?_
                        rintro e v2 ⟨rfl, rfl⟩
                        go_wp2_with fail
                        refine (NC.out _).mono ?_
                        rintro e v3 ⟨rfl, rfl⟩
                        have HX2 := Lib.hid (And.intro HX.out HB1.out)
                        go_wp2_with fail
                        go_meet
                        exact ⟨true, rfl, Lib.hid ⟨by rw [HL.out]; rfl, HX2.out⟩⟩
                  | false =>
                    simp only [m5] at NG
                    have B5 : Hid (blankB p.group = false) := Lib.hid (by unfold blankB; rw [b5, m5]; rfl)
                    clear m5
                    have HL : Hid (headB p = false) := Lib.hid (by rw [HD.out, n1, D1.out, D2.out, D3.out, D4.out, B5.out]; rfl)
                    go_wp2_with fail
                    refine (NI.out _).mono ?_
                    rintro e v1 ⟨rfl, rfl⟩
                    go_wp2_with fail
                    refine (NG.out _).mono ?_
                    rintro e v2 ⟨rfl, rfl⟩
                    have HX2 := Lib.hid (And.intro HX.out HB1.out)
                    go_wp2_with fail
                    go_meet
                    exact ⟨true, rfl, Lib.hid ⟨by rw [HL.out]; rfl, HX2.out⟩⟩
  case rest =>
  obtain ⟨bb, rfl, hC⟩ := hcut
  clear HS HI NI NG NC HD HB1 HX x0 x1 x2 x3 x4 x6 x7 x8
  go_upto_if 67 with (fail)
  go_cut [2] (fun s2 wx => s2 = .bool false /\ Hid (headB p = true /\ Qu.Blk wx w.heap.size 28 #[.string p.id, .int .i64 p.kind, .int .i64 p.priority, .string p.group, .string p.code, .bool p.closes, .slice l.scope.skus.A l.scope.skus.n l.scope.skus.c, .slice l.scope.cats.A l.scope.cats.n l.scope.cats.c, .int .i64 p.least, .int .i64 p.rate, .int .i64 p.amount, .int .i64 p.buy, .int .i64 p.get, .slice l.parts.A l.parts.n l.parts.c, .slice l.tiers.A l.tiers.n l.tiers.c] /\ Below w.heap.size w wx))
  case first =>
    cases hB : headB p with
    | false =>
      have hbb : bb = true := by rw [hC.out.1, hB]; rfl
      subst hbb
      have HG : Hid (promoB p = false) := Lib.hid (by unfold promoB; rw [hB]; rfl)
      clear hB
      go_wp2
      go_ret
      exact ⟨by rw [HG.out]; rfl, hC.out.2.2⟩
    | true =>
      have hbb : bb = false := by rw [hC.out.1, hB]; rfl
      subst hbb
      have HB : Hid (headB p = true /\ Qu.Blk wc w.heap.size 28 #[.string p.id, .int .i64 p.kind, .int .i64 p.priority, .string p.group, .string p.code, .bool p.closes, .slice l.scope.skus.A l.scope.skus.n l.scope.skus.c, .slice l.scope.cats.A l.scope.cats.n l.scope.cats.c, .int .i64 p.least, .int .i64 p.rate, .int .i64 p.amount, .int .i64 p.buy, .int .i64 p.get, .slice l.parts.A l.parts.n l.parts.c, .slice l.tiers.A l.tiers.n l.tiers.c] /\ Below w.heap.size w wc) := Lib.hid ⟨hB, hC.out.2⟩
      clear hB
      go_wp2_with fail
      go_meet
      first
        | exact ⟨rfl, HB⟩
        | exact ⟨rfl, Lib.hid ⟨by trivial, HB.out.2⟩⟩
  case rest =>
    obtain ⟨rfl, hC3⟩ := hcut
    apply_assumption
    exact at3 p l w wc _ _ _ _ _ _ _ _ _ _ _ _ _ _ _ _ _ _ _ _ _ _ _ _ _ _ _ _ _ _ _ _ _ _ _ _ _ _ _ _ _ _ _ _ _ _ _ _ _ _ _ _ _ _ _ _ _ _ _ _ _ _ _ _ _ _ _ _ _ _ _ _ _ _ _ _ _ _ _ _ _ _ _ _ _ _ _ _ _ _ _ _ _ _ _ _ _ _ _ _ _ _ _ _ _ _ _ _ _ _ _ _ _ _ _ _ _ _ _ _ _ _ _ _ _ _ _ _ _ _ _ _ _ _ _ _ _ _ _ _ _ _ _ _ _ _ _ _ _ _ _ _ _ _ _ _ _ _ _ _ _ _ _ _ _ _ _ _ _ _ _ _ _ _ _ _ _ _ _ _ _ _ _ _ _ _ _ _ _ _ _ _ _ _ _ _ _ _ _ _ _ _ _ _ _ _ _ _ _ _ _ _ _ _ _ _ _ _ _ _ _ _ _ _ _ _ _ _ _ _ _ _ _ _ _ _ _ _ (by unfold promoB; rw [hC3.out.1]; rfl) hC3.out.2.1 hC3.out.2.2 HH.out.1 HH.out.2
end Go.Proofs.YtljmddjlnlmenaaGreat.Pr
