/- The landed headRight, and what a promotion has. · The landed Right. (made by wip/gen-right.py) -/
import Derived.Deep.CutBlock
import Derived.Deep.DeepCutAuto
import Derived.Deep.RegionHeld3
import Derived.Laws.EntriesVeiled
import Derived.Test.YtljmddjlnlmenaaPk11

section
set_option maxRecDepth 100000
set_option linter.unusedVariables false
namespace Go.Proofs.Ytljmddjlnlmenaa.Pm
open Go.ChangeShapes Go.WideShapes Go.ChangeAt Go.RowKit
open Ap (Scp Prt Tir Prm kPrt kTir row_Prt row_Tir)
open Kd (Row Lst)
noncomputable def headL (p : Prm) : Bool := Sr.name p.id && Pr.blankB p.group && Pr.blankB p.code && inR p.priority 0 1000 && inR p.least 0 10000000000000 && Sc.scopeB p.scope
theorem headL_def (p : Prm) : headL p = (Sr.name p.id && Pr.blankB p.group && Pr.blankB p.code && inR p.priority 0 1000 && inR p.least 0 10000000000000 && Sc.scopeB p.scope) := rfl
theorem head_eq (p : Prm) : Pr.headB p = (headL p && (decide (1 ≤ p.kind) && decide (p.kind ≤ 7))) := by
  unfold Pr.headB headL
  rw [show Pr.inB p.least 10000000000000 = inR p.least 0 10000000000000 from rfl, show inR p.priority 0 1000 = (decide (0 ≤ p.priority) && decide (p.priority ≤ 1000)) from rfl]
  cases Sr.name p.id <;> cases decide (1 ≤ p.kind) <;> cases decide (p.kind ≤ 7) <;> cases decide (0 ≤ p.priority) <;> cases decide (p.priority ≤ 1000) <;> cases Pr.blankB p.group <;> cases Pr.blankB p.code <;> cases Sc.scopeB p.scope <;> cases inR p.least 0 10000000000000 <;> rfl
set_option maxHeartbeats 4000000 in
theorem head_any (p : Prm) (l : Prm.Lay) (w : World) (h : Ap.Prm.Holds w (· < w.heap.size) p l) (hS : Sc.Small l.scope) :
    Calls Try.prog 27 #[.agg #[.string p.id, .int .i64 p.kind, .int .i64 p.priority, .string p.group, .string p.code, .bool p.closes, .slice l.scope.skus.A l.scope.skus.n l.scope.skus.c, .slice l.scope.cats.A l.scope.cats.n l.scope.cats.c, .int .i64 p.least, .int .i64 p.rate, .int .i64 p.amount, .int .i64 p.buy, .int .i64 p.get, .slice l.parts.A l.parts.n l.parts.c, .slice l.tiers.A l.tiers.n l.tiers.c]] w fun e w' => e = .returned (.bool (headL p)) ∧ Below w.heap.size w w' := by
  obtain ⟨w1, hw1⟩ : ∃ w1, w.alloc (.cells #[.string p.id, .int .i64 p.kind, .int .i64 p.priority, .string p.group, .string p.code, .bool p.closes, .slice l.scope.skus.A l.scope.skus.n l.scope.skus.c, .slice l.scope.cats.A l.scope.cats.n l.scope.cats.c, .int .i64 p.least, .int .i64 p.rate, .int .i64 p.amount, .int .i64 p.buy, .int .i64 p.get, .slice l.parts.A l.parts.n l.parts.c, .slice l.tiers.A l.tiers.n l.tiers.c] 66) = w1 := ⟨_, rfl⟩
  have hx : Qu.Blk w1 w.heap.size 66 #[.string p.id, .int .i64 p.kind, .int .i64 p.priority, .string p.group, .string p.code, .bool p.closes, .slice l.scope.skus.A l.scope.skus.n l.scope.skus.c, .slice l.scope.cats.A l.scope.cats.n l.scope.cats.c, .int .i64 p.least, .int .i64 p.rate, .int .i64 p.amount, .int .i64 p.buy, .int .i64 p.get, .slice l.parts.A l.parts.n l.parts.c, .slice l.tiers.A l.tiers.n l.tiers.c] := by rw [← hw1]; exact Qu.Blk.new w _ _
  have hb1 : Below w.heap.size w w1 := by rw [← hw1]; exact (Below.refl _ _).alloc (Nat.le_refl _) _
  have x0 := hx.cell 0
  have x2 := hx.cell 2
  have x3 := hx.cell 3
  have x4 := hx.cell 4
  have x6 := hx.cell 6
  have x7 := hx.cell 7
  have x8 := hx.cell 8
  have HB := Lib.hid hb1
  have H1 := Lib.hid (fun W => Gd.name_any p.id W h.id)
  have H2 := Lib.hid (fun W => blank_any p.group W h.group)
  have H3 := Lib.hid (fun W => blank_any p.code W h.code)
  have H4 := Lib.hid (fun W => within_any p.priority 0 1000 W)
  have H5 := Lib.hid (fun W => within64_any p.least 0 10000000000000 W)
  have H6 := Lib.hid (Sc.Right_any p.scope l.scope w1 ⟨(h.scope.skus.below hb1 (Nat.le_refl _)).more fun b hb => Nat.lt_of_lt_of_le hb hb1.size, (h.scope.cats.below hb1 (Nat.le_refl _)).more fun b hb => Nat.lt_of_lt_of_le hb hb1.size⟩ hS)
  have HD := Lib.hid (headL_def p)
  clear hx hb1 h hS
  cases b1 : Sr.name p.id with
  | false =>
    simp only [b1] at H1
    have HG : Hid (headL p = false) := Lib.hid (by rw [HD.out, b1]; rfl)
    clear b1
    go_enter Try.func27, Try.ntmps27
    go_wp2_with fail
    refine (H1.out _).mono ?_
    rintro e w2 ⟨rfl, rfl⟩
    go_wp2
    go_ret
    exact ⟨by rw [HG.out]; rfl, HB.out⟩
  | true =>
    simp only [b1] at H1
    cases b2 : Pr.blankB p.group with
    | false =>
      simp only [b2] at H2
      have HG : Hid (headL p = false) := Lib.hid (by rw [HD.out, b1, b2]; rfl)
      clear b1 b2
      go_enter Try.func27, Try.ntmps27
      go_wp2_with fail
      refine (H1.out _).mono ?_
      rintro e w2 ⟨rfl, rfl⟩
      go_wp2_with fail
      refine (H2.out _).mono ?_
      rintro e w2 ⟨rfl, rfl⟩
      go_wp2
      go_ret
      exact ⟨by rw [HG.out]; rfl, HB.out⟩
    | true =>
      simp only [b2] at H2
      cases b3 : Pr.blankB p.code with
      | false =>
        simp only [b3] at H3
        have HG : Hid (headL p = false) := Lib.hid (by rw [HD.out, b1, b2, b3]; rfl)
        clear b1 b2 b3
        go_enter Try.func27, Try.ntmps27
        go_wp2_with fail
        refine (H1.out _).mono ?_
        rintro e w2 ⟨rfl, rfl⟩
        go_wp2_with fail
        refine (H2.out _).mono ?_
        rintro e w2 ⟨rfl, rfl⟩
        go_wp2_with fail
        refine (H3.out _).mono ?_
        rintro e w2 ⟨rfl, rfl⟩
        go_wp2
        go_ret
        exact ⟨by rw [HG.out]; rfl, HB.out⟩
      | true =>
        simp only [b3] at H3
        cases b4 : inR p.priority 0 1000 with
        | false =>
          simp only [b4] at H4
          have HG : Hid (headL p = false) := Lib.hid (by rw [HD.out, b1, b2, b3, b4]; rfl)
          clear b1 b2 b3 b4
          go_enter Try.func27, Try.ntmps27
          go_wp2_with fail
          refine (H1.out _).mono ?_
          rintro e w2 ⟨rfl, rfl⟩
          go_wp2_with fail
          refine (H2.out _).mono ?_
          rintro e w2 ⟨rfl, rfl⟩
          go_wp2_with fail
          refine (H3.out _).mono ?_
          rintro e w2 ⟨rfl, rfl⟩
          go_wp2_with fail
          refine (H4.out _).mono ?_
          rintro e w2 ⟨rfl, rfl⟩
          go_wp2
          go_ret
          exact ⟨by rw [HG.out]; rfl, HB.out⟩
        | true =>
          simp only [b4] at H4
          cases b5 : inR p.least 0 10000000000000 with
          | false =>
            simp only [b5] at H5
            have HG : Hid (headL p = false) := Lib.hid (by rw [HD.out, b1, b2, b3, b4, b5]; rfl)
            clear b1 b2 b3 b4 b5
            go_enter Try.func27, Try.ntmps27
            go_wp2_with fail
            refine (H1.out _).mono ?_
            rintro e w2 ⟨rfl, rfl⟩
            go_wp2_with fail
            refine (H2.out _).mono ?_
            rintro e w2 ⟨rfl, rfl⟩
            go_wp2_with fail
            refine (H3.out _).mono ?_
            rintro e w2 ⟨rfl, rfl⟩
            go_wp2_with fail
            refine (H4.out _).mono ?_
            rintro e w2 ⟨rfl, rfl⟩
            go_wp2_with fail
            refine (H5.out _).mono ?_
            rintro e w2 ⟨rfl, rfl⟩
            go_wp2
            go_ret
            exact ⟨by rw [HG.out]; rfl, HB.out⟩
          | true =>
            simp only [b5] at H5
            cases b6 : Sc.scopeB p.scope with
            | false =>
              simp only [b6] at H6
              have HG : Hid (headL p = false) := Lib.hid (by rw [HD.out, b1, b2, b3, b4, b5, b6]; rfl)
              clear b1 b2 b3 b4 b5 b6
              go_enter Try.func27, Try.ntmps27
              go_wp2_with fail
              refine (H1.out _).mono ?_
              rintro e w2 ⟨rfl, rfl⟩
              go_wp2_with fail
              refine (H2.out _).mono ?_
              rintro e w2 ⟨rfl, rfl⟩
              go_wp2_with fail
              refine (H3.out _).mono ?_
              rintro e w2 ⟨rfl, rfl⟩
              go_wp2_with fail
              refine (H4.out _).mono ?_
              rintro e w2 ⟨rfl, rfl⟩
              go_wp2_with fail
              refine (H5.out _).mono ?_
              rintro e w2 ⟨rfl, rfl⟩
              go_wp2_with fail
              refine H6.out.mono ?_
              rintro e w3 ⟨rfl, hb3⟩
              have HB3 := Lib.hid (HB.out.trans (hb3.mono HB.out.size))
              clear hb3
              go_wp2
              go_ret
              exact ⟨by rw [HG.out]; rfl, HB3.out⟩
            | true =>
              simp only [b6] at H6
              have HG : Hid (headL p = true) := Lib.hid (by rw [HD.out, b1, b2, b3, b4, b5, b6]; rfl)
              clear b1 b2 b3 b4 b5 b6
              go_enter Try.func27, Try.ntmps27
              go_wp2_with fail
              refine (H1.out _).mono ?_
              rintro e w2 ⟨rfl, rfl⟩
              go_wp2_with fail
              refine (H2.out _).mono ?_
              rintro e w2 ⟨rfl, rfl⟩
              go_wp2_with fail
              refine (H3.out _).mono ?_
              rintro e w2 ⟨rfl, rfl⟩
              go_wp2_with fail
              refine (H4.out _).mono ?_
              rintro e w2 ⟨rfl, rfl⟩
              go_wp2_with fail
              refine (H5.out _).mono ?_
              rintro e w2 ⟨rfl, rfl⟩
              go_wp2_with fail
              refine H6.out.mono ?_
              rintro e w3 ⟨rfl, hb3⟩
              have HB3 := Lib.hid (HB.out.trans (hb3.mono HB.out.size))
              clear hb3
              go_wp2
              go_ret
              exact ⟨by rw [HG.out]; rfl, HB3.out⟩
def hasV (b0 b1 b2 b3 b4 b5 b6 b7 : Bool) : Int := bits .or .i64 (bits .or .i64 (bits .or .i64 (bits .or .i64 (bits .or .i64 (bits .or .i64 (bits .or .i64 (wh 1 b0) (wh 2 b1)) (wh 4 b2)) (wh 8 b3)) (wh 16 b4)) (wh 32 b5)) (wh 64 b6)) (wh 128 b7)
theorem may_percent : ∀ b0 b1 b2 b3 b4 b5 b6 b7 : Bool, (bits .andNot .i64 (hasV b0 b1 b2 b3 b4 b5 b6 b7) 193 == 0) = (!b1 && !b2 && !b3 && !b4 && !b5) := by decide +kernel
theorem may_amount : ∀ b0 b1 b2 b3 b4 b5 b6 b7 : Bool, (bits .andNot .i64 (hasV b0 b1 b2 b3 b4 b5 b6 b7) 194 == 0) = (!b0 && !b2 && !b3 && !b4 && !b5) := by decide +kernel
theorem may_rows : ∀ b0 b1 b2 b3 b4 b5 b6 b7 : Bool, (bits .andNot .i64 (hasV b0 b1 b2 b3 b4 b5 b6 b7) 205 == 0) = (!b1 && !b4 && !b5) := by decide +kernel
theorem may_bundle : ∀ b0 b1 b2 b3 b4 b5 b6 b7 : Bool, (bits .andNot .i64 (hasV b0 b1 b2 b3 b4 b5 b6 b7) 146 == 0) = (!b0 && !b2 && !b3 && !b5 && !b6) := by decide +kernel
theorem may_tiers : ∀ b0 b1 b2 b3 b4 b5 b6 b7 : Bool, (bits .andNot .i64 (hasV b0 b1 b2 b3 b4 b5 b6 b7) 224 == 0) = (!b0 && !b1 && !b2 && !b3 && !b4) := by decide +kernel
theorem may_ship : ∀ b0 b1 b2 b3 b4 b5 b6 b7 : Bool, (bits .andNot .i64 (hasV b0 b1 b2 b3 b4 b5 b6 b7) 1 == 0) = (!b1 && !b2 && !b3 && !b4 && !b5 && !b6 && !b7) := by decide +kernel
def hasP (p : Prm) : Int := hasV (p.rate != 0) (p.amount != 0) (p.buy != 0) (p.get != 0) (decide (0 < p.parts.length)) (decide (0 < p.tiers.length)) (decide (0 < p.scope.skus.length + p.scope.cats.length)) p.closes
set_option maxHeartbeats 4000000 in
theorem has_any (p : Prm) (l : Prm.Lay) (w : World) (hp : p.parts.length = l.parts.n) (ht : p.tiers.length = l.tiers.n) (h1 : p.scope.skus.length = l.scope.skus.n) (h2 : p.scope.cats.length = l.scope.cats.n) (hS : l.scope.skus.n ≤ 1000000000000 ∧ l.scope.cats.n ≤ 1000000000000) : Calls Try.prog 28 #[.agg #[.string p.id, .int .i64 p.kind, .int .i64 p.priority, .string p.group, .string p.code, .bool p.closes, .slice l.scope.skus.A l.scope.skus.n l.scope.skus.c, .slice l.scope.cats.A l.scope.cats.n l.scope.cats.c, .int .i64 p.least, .int .i64 p.rate, .int .i64 p.amount, .int .i64 p.buy, .int .i64 p.get, .slice l.parts.A l.parts.n l.parts.c, .slice l.tiers.A l.tiers.n l.tiers.c]] w fun e w' => e = .returned (.int .i64 (hasP p)) ∧ Below w.heap.size w w' := by
  have HP : Hid (hasP p = hasV (p.rate != 0) (p.amount != 0) (p.buy != 0) (p.get != 0) (decide (0 < l.parts.n)) (decide (0 < l.tiers.n)) (decide (0 < wrap64 ((l.scope.skus.n : Int) + (l.scope.cats.n : Int)))) p.closes) := Lib.hid (by
    unfold hasP
    rw [hp, ht, h1, h2, IntWalk.wrap64_in _ (by have := hS.1; have := hS.2; omega)]
    congr 1
    by_cases e : 0 < l.scope.skus.n + l.scope.cats.n
    · rw [decide_eq_true e, decide_eq_true (by omega)]
    · rw [decide_eq_false e, decide_eq_false (by omega)])
  clear hp ht h1 h2 hS
  obtain ⟨w1, hw1⟩ : ∃ w1, w.alloc (.cells #[.string p.id, .int .i64 p.kind, .int .i64 p.priority, .string p.group, .string p.code, .bool p.closes, .slice l.scope.skus.A l.scope.skus.n l.scope.skus.c, .slice l.scope.cats.A l.scope.cats.n l.scope.cats.c, .int .i64 p.least, .int .i64 p.rate, .int .i64 p.amount, .int .i64 p.buy, .int .i64 p.get, .slice l.parts.A l.parts.n l.parts.c, .slice l.tiers.A l.tiers.n l.tiers.c] 66) = w1 := ⟨_, rfl⟩
  have hx : Qu.Blk w1 w.heap.size 66 #[.string p.id, .int .i64 p.kind, .int .i64 p.priority, .string p.group, .string p.code, .bool p.closes, .slice l.scope.skus.A l.scope.skus.n l.scope.skus.c, .slice l.scope.cats.A l.scope.cats.n l.scope.cats.c, .int .i64 p.least, .int .i64 p.rate, .int .i64 p.amount, .int .i64 p.buy, .int .i64 p.get, .slice l.parts.A l.parts.n l.parts.c, .slice l.tiers.A l.tiers.n l.tiers.c] := by rw [← hw1]; exact Qu.Blk.new w _ _
  have hb1 : Below w.heap.size w w1 := by rw [← hw1]; exact (Below.refl _ _).alloc (Nat.le_refl _) _
  have x5 := hx.cell 5
  have x6 := hx.cell 6
  have x7 := hx.cell 7
  have x9 := hx.cell 9
  have x10 := hx.cell 10
  have x11 := hx.cell 11
  have x12 := hx.cell 12
  have x13 := hx.cell 13
  have x14 := hx.cell 14
  have HB := Lib.hid hb1
  obtain ⟨b0, t0⟩ : ∃ b, (p.rate != 0) = b := ⟨_, rfl⟩
  obtain ⟨b1, t1⟩ : ∃ b, (p.amount != 0) = b := ⟨_, rfl⟩
  obtain ⟨b2, t2⟩ : ∃ b, (p.buy != 0) = b := ⟨_, rfl⟩
  obtain ⟨b3, t3⟩ : ∃ b, (p.get != 0) = b := ⟨_, rfl⟩
  rw [t0, t1, t2, t3] at HP
  clear hx hb1
  go_enter Try.func28, Try.ntmps28
  go_wp2_with fail
  go_quiet ((go_at_call 48; exact Calls.quiet_of_same (where_any _ _ _)))
  go_wp2
  go_ret
  exact ⟨by rw [HP.out]; rfl, HB.out.trans ((Hl.Drawn.below ⟨_, rfl⟩ _).mono HB.out.size)⟩
end Go.Proofs.Ytljmddjlnlmenaa.Pm

end

section
set_option maxRecDepth 100000
set_option linter.unusedVariables false
namespace Go.Proofs.Ytljmddjlnlmenaa.Pm
open Go.ChangeShapes Go.WideShapes Go.ChangeAt Go.RowKit
open Ap (Scp Prt Tir Prm kPrt kTir row_Prt row_Tir)
open Kd (Row Lst)
def table : Array Value := #[.nilFunc, .int .i64 0, .func (.func 22) #[] #[], .int .i64 193, .func (.func 23) #[] #[], .int .i64 194, .func (.func 24) #[] #[], .int .i64 205, .func (.func 25) #[] #[], .int .i64 146, .func (.func 26) #[] #[], .int .i64 224, .func (.func 26) #[] #[], .int .i64 224, .func (.func 22) #[] #[], .int .i64 1]
structure Asked (w wx : World) (p : Prm) (l : Prm.Lay) (g4 g5 : Nat) (f : Nat) (m : Int) : Prop where
  x : Qu.Blk wx g4 66 #[.string p.id, .int .i64 p.kind, .int .i64 p.priority, .string p.group, .string p.code, .bool p.closes, .slice l.scope.skus.A l.scope.skus.n l.scope.skus.c, .slice l.scope.cats.A l.scope.cats.n l.scope.cats.c, .int .i64 p.least, .int .i64 p.rate, .int .i64 p.amount, .int .i64 p.buy, .int .i64 p.get, .slice l.parts.A l.parts.n l.parts.c, .slice l.tiers.A l.tiers.n l.tiers.c]
  k : Qu.Blk wx g5 69 #[.func (.func f) #[] #[], .int .i64 m]
  below : Below w.heap.size w wx
theorem asked_one {w w2 : World} {p : Prm} {l : Prm.Lay} {f : Nat} {m : Int} (hb : Below w.heap.size w w2) : Asked w ((w2.alloc (.cells #[.string p.id, .int .i64 p.kind, .int .i64 p.priority, .string p.group, .string p.code, .bool p.closes, .slice l.scope.skus.A l.scope.skus.n l.scope.skus.c, .slice l.scope.cats.A l.scope.cats.n l.scope.cats.c, .int .i64 p.least, .int .i64 p.rate, .int .i64 p.amount, .int .i64 p.buy, .int .i64 p.get, .slice l.parts.A l.parts.n l.parts.c, .slice l.tiers.A l.tiers.n l.tiers.c] 66)).alloc (.cells #[.func (.func f) #[] #[], .int .i64 m] 69)).drew p l w2.heap.size (w2.heap.size + 1) f m := by
  have hs : (w2.alloc (.cells #[.string p.id, .int .i64 p.kind, .int .i64 p.priority, .string p.group, .string p.code, .bool p.closes, .slice l.scope.skus.A l.scope.skus.n l.scope.skus.c, .slice l.scope.cats.A l.scope.cats.n l.scope.cats.c, .int .i64 p.least, .int .i64 p.rate, .int .i64 p.amount, .int .i64 p.buy, .int .i64 p.get, .slice l.parts.A l.parts.n l.parts.c, .slice l.tiers.A l.tiers.n l.tiers.c] 66)).heap.size = w2.heap.size + 1 := by simp
  have h1 := (Qu.Blk.new w2 66 #[.string p.id, .int .i64 p.kind, .int .i64 p.priority, .string p.group, .string p.code, .bool p.closes, .slice l.scope.skus.A l.scope.skus.n l.scope.skus.c, .slice l.scope.cats.A l.scope.cats.n l.scope.cats.c, .int .i64 p.least, .int .i64 p.rate, .int .i64 p.amount, .int .i64 p.buy, .int .i64 p.get, .slice l.parts.A l.parts.n l.parts.c, .slice l.tiers.A l.tiers.n l.tiers.c]).alloc (.cells #[.func (.func f) #[] #[], .int .i64 m] 69)
  have h2 := Qu.Blk.new (w2.alloc (.cells #[.string p.id, .int .i64 p.kind, .int .i64 p.priority, .string p.group, .string p.code, .bool p.closes, .slice l.scope.skus.A l.scope.skus.n l.scope.skus.c, .slice l.scope.cats.A l.scope.cats.n l.scope.cats.c, .int .i64 p.least, .int .i64 p.rate, .int .i64 p.amount, .int .i64 p.buy, .int .i64 p.get, .slice l.parts.A l.parts.n l.parts.c, .slice l.tiers.A l.tiers.n l.tiers.c] 66)) 69 #[.func (.func f) #[] #[], .int .i64 m]
  rw [hs] at h2
  exact ⟨h1.drew, h2.drew, ((hb.alloc hb.size _).alloc (by have := hb.size; omega) _).drew⟩
theorem asked_two {w w2 : World} {p : Prm} {l : Prm.Lay} {f : Nat} {m : Int} (hb : Below w.heap.size w w2) : Asked w ((w2.alloc (.cells #[.func (.func f) #[] #[], .int .i64 m] 69)).alloc (.cells #[.string p.id, .int .i64 p.kind, .int .i64 p.priority, .string p.group, .string p.code, .bool p.closes, .slice l.scope.skus.A l.scope.skus.n l.scope.skus.c, .slice l.scope.cats.A l.scope.cats.n l.scope.cats.c, .int .i64 p.least, .int .i64 p.rate, .int .i64 p.amount, .int .i64 p.buy, .int .i64 p.get, .slice l.parts.A l.parts.n l.parts.c, .slice l.tiers.A l.tiers.n l.tiers.c] 66)).drew p l (w2.heap.size + 1) w2.heap.size f m := by
  have hs : (w2.alloc (.cells #[.func (.func f) #[] #[], .int .i64 m] 69)).heap.size = w2.heap.size + 1 := by simp
  have h1 := (Qu.Blk.new w2 69 #[.func (.func f) #[] #[], .int .i64 m]).alloc (.cells #[.string p.id, .int .i64 p.kind, .int .i64 p.priority, .string p.group, .string p.code, .bool p.closes, .slice l.scope.skus.A l.scope.skus.n l.scope.skus.c, .slice l.scope.cats.A l.scope.cats.n l.scope.cats.c, .int .i64 p.least, .int .i64 p.rate, .int .i64 p.amount, .int .i64 p.buy, .int .i64 p.get, .slice l.parts.A l.parts.n l.parts.c, .slice l.tiers.A l.tiers.n l.tiers.c] 66)
  have h2 := Qu.Blk.new (w2.alloc (.cells #[.func (.func f) #[] #[], .int .i64 m] 69)) 66 #[.string p.id, .int .i64 p.kind, .int .i64 p.priority, .string p.group, .string p.code, .bool p.closes, .slice l.scope.skus.A l.scope.skus.n l.scope.skus.c, .slice l.scope.cats.A l.scope.cats.n l.scope.cats.c, .int .i64 p.least, .int .i64 p.rate, .int .i64 p.amount, .int .i64 p.buy, .int .i64 p.get, .slice l.parts.A l.parts.n l.parts.c, .slice l.tiers.A l.tiers.n l.tiers.c]
  rw [hs] at h2
  exact ⟨h2.drew, h1.drew, ((hb.alloc hb.size _).alloc (by have := hb.size; omega) _).drew⟩
noncomputable def tailR : Code := match Try.f11.body with
  | some (.seq _ (.seq _ (.seq _ (.seq _ c)))) => c
  | _ => .skip
set_option maxRecDepth 100000 in
set_option maxHeartbeats 8000000 in
theorem right_pre (KK f : Nat) (m : Int) (R : Bool) (p : Prm) (l : Prm.Lay) (w : World) (h1 : 1 ≤ p.kind) (h2 : p.kind ≤ 7) (hk : p.kind.toNat = KK) (hE0 : table[KK * 2]? = some (.func (.func f) #[] #[])) (hE1 : table[KK * 2 + 1]? = some (.int .i64 m))
    (hR : ∀ (wc : World) (g4 g5 : Nat) (u0 u1 u2 u3 u6 u7 u8 u9 u10 u11 u12 u13 u14 u15 u16 u17 u18 u19 u20 u21 u22 u23 u24 u25 u26 u27 u28 u29 u30 u31 u32 u33 u34 u35 u36 u37 u38 u39 u40 u41 u42 : Value), Asked w wc p l g4 g5 f m → Code.wp Try.prog tailR (bodyPost Try.prog Try.f11 fun e w' => e = .returned (.bool R) ∧ Below w.heap.size w w') ⟨#[u0, u1, u2, u3, .pointer (some ⟨g4, 0, none⟩), .pointer (some ⟨g5, 0, none⟩), u6, u7, u8, u9, u10, u11, u12, u13, u14, u15, u16, u17, u18, u19, u20, u21, u22, u23, u24, u25, u26, u27, u28, u29, u30, u31, u32, u33, u34, u35, u36, u37, u38, u39, u40, u41, u42], []⟩ wc) :
    Calls Try.prog 11 #[.agg #[.string p.id, .int .i64 p.kind, .int .i64 p.priority, .string p.group, .string p.code, .bool p.closes, .slice l.scope.skus.A l.scope.skus.n l.scope.skus.c, .slice l.scope.cats.A l.scope.cats.n l.scope.cats.c, .int .i64 p.least, .int .i64 p.rate, .int .i64 p.amount, .int .i64 p.buy, .int .i64 p.get, .slice l.parts.A l.parts.n l.parts.c, .slice l.tiers.A l.tiers.n l.tiers.c]] w fun e w' => e = .returned (.bool R) ∧ Below w.heap.size w w' := by
  have HR := Lib.hid hR
  clear hR
  obtain ⟨w1, hw1⟩ : ∃ w1, w.alloc (.cells #[.string p.id, .int .i64 p.kind, .int .i64 p.priority, .string p.group, .string p.code, .bool p.closes, .slice l.scope.skus.A l.scope.skus.n l.scope.skus.c, .slice l.scope.cats.A l.scope.cats.n l.scope.cats.c, .int .i64 p.least, .int .i64 p.rate, .int .i64 p.amount, .int .i64 p.buy, .int .i64 p.get, .slice l.parts.A l.parts.n l.parts.c, .slice l.tiers.A l.tiers.n l.tiers.c] 30) = w1 := ⟨_, rfl⟩
  have hx : Qu.Blk w1 w.heap.size 30 #[.string p.id, .int .i64 p.kind, .int .i64 p.priority, .string p.group, .string p.code, .bool p.closes, .slice l.scope.skus.A l.scope.skus.n l.scope.skus.c, .slice l.scope.cats.A l.scope.cats.n l.scope.cats.c, .int .i64 p.least, .int .i64 p.rate, .int .i64 p.amount, .int .i64 p.buy, .int .i64 p.get, .slice l.parts.A l.parts.n l.parts.c, .slice l.tiers.A l.tiers.n l.tiers.c] := by rw [← hw1]; exact Qu.Blk.new w _ _
  have hb1 : Below w.heap.size w w1 := by rw [← hw1]; exact (Below.refl _ _).alloc (Nat.le_refl _) _
  obtain ⟨w2, hw2⟩ : ∃ w2, w1.alloc (.cells #[.nilFunc, .int .i64 0, .func (.func 22) #[] #[], .int .i64 193, .func (.func 23) #[] #[], .int .i64 194, .func (.func 24) #[] #[], .int .i64 205, .func (.func 25) #[] #[], .int .i64 146, .func (.func 26) #[] #[], .int .i64 224, .func (.func 26) #[] #[], .int .i64 224, .func (.func 22) #[] #[], .int .i64 1] 70) = w2 := ⟨_, rfl⟩
  have hx2 : Qu.Blk w2 w.heap.size 30 #[.string p.id, .int .i64 p.kind, .int .i64 p.priority, .string p.group, .string p.code, .bool p.closes, .slice l.scope.skus.A l.scope.skus.n l.scope.skus.c, .slice l.scope.cats.A l.scope.cats.n l.scope.cats.c, .int .i64 p.least, .int .i64 p.rate, .int .i64 p.amount, .int .i64 p.buy, .int .i64 p.get, .slice l.parts.A l.parts.n l.parts.c, .slice l.tiers.A l.tiers.n l.tiers.c] := by rw [← hw2]; exact hx.alloc _
  have ht2 : Qu.Blk w2 w1.heap.size 70 table := by rw [← hw2]; exact Qu.Blk.new w1 _ _
  have HB2 : Hid (Below w.heap.size w w2) := Lib.hid (by rw [← hw2]; exact hb1.alloc hb1.size _)
  have x0 := hx2.cell 0
  have x1 := hx2.cell 1
  have x2 := hx2.cell 2
  have x3 := hx2.cell 3
  have x4 := hx2.cell 4
  have x5 := hx2.cell 5
  have x6 := hx2.cell 6
  have x7 := hx2.cell 7
  have x8 := hx2.cell 8
  have x9 := hx2.cell 9
  have x10 := hx2.cell 10
  have x11 := hx2.cell 11
  have x12 := hx2.cell 12
  have x13 := hx2.cell 13
  have x14 := hx2.cell 14
  have y0 : w2.cell? ⟨w1.heap.size, KK * 2, none⟩ = some (.func (.func f) #[] #[]) := (ht2.cell (KK * 2)).trans hE0
  have y1 : w2.cell? ⟨w1.heap.size, KK * 2 + 1, none⟩ = some (.int .i64 m) := (ht2.cell (KK * 2 + 1)).trans hE1
  have d1 : ¬ p.kind < 1 := by omega
  have d2 : ¬ (8 : Int) ≤ p.kind := by omega
  have d3 : decide ((8 : Int) ≤ p.kind) = false := decide_eq_false d2
  have d4 : decide (p.kind < 1) = false := decide_eq_false d1
  have kn : p.kind.toNat = KK := hk
  have kl : p.kind < 8 := by omega
  have k0 : 0 ≤ p.kind := by omega
  have hz1 : w.heap.size < w2.heap.size := hx2.lt
  have hz2 : w1.heap.size < w2.heap.size := ht2.lt
  clear hx hb1 hx2 ht2 hE0 hE1 hk
  go_enter Try.func11, Try.ntmps11
  go_upto_region 4 with (fail)
  clear d1 d2 d3 d4
  have HT := Lib.hid (And.intro hz1 hz2)
  go_cut [4, 5] (fun s4 s5 wx => ∃ g4 g5 : Nat, s4 = .pointer (some ⟨g4, 0, none⟩) ∧ s5 = .pointer (some ⟨g5, 0, none⟩) ∧ Hid (Asked w wx p l g4 g5 f m))
  case first =>
    go_region
    · go_wp2_with fail
      go_meet
      exact ⟨w2.heap.size, w2.heap.size + 1, rfl, rfl, Lib.hid (asked_one HB2.out)⟩
    · go_wp2_with fail
      go_meet
      exact ⟨w2.heap.size + 1, w2.heap.size, rfl, rfl, Lib.hid (asked_two HB2.out)⟩
  case rest =>
    obtain ⟨g4, g5, rfl, rfl, HAs⟩ := hcut
    clear HT HB2 hw1 hw2 x0 x1 x2 x3 x4 x5 x6 x7 x8 x9 x10 x11 x12 x13 x14 y0 y1 kn kl k0 hz1 hz2
    apply_assumption
    exact HR.out wc g4 g5 _ _ _ _ _ _ _ _ _ _ _ _ _ _ _ _ _ _ _ _ _ _ _ _ _ _ _ _ _ _ _ _ _ _ _ _ _ _ _ _ _ HAs.out
end Go.Proofs.Ytljmddjlnlmenaa.Pm

end
