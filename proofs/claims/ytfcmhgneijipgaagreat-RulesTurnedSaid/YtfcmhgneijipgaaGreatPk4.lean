/- The landed promo's small asks: bounds, names, a rate, an amount, rows. · The landed rules' small asks: bounds, a rate, shipping, names that things are called by. (made by wip/gen-rules13.py) -/
import Derived.Test.YtfcmhgneijipgaaGreatPk2
import Derived.Test.YtfcmhgneijipgaaGreatPk3

section
set_option maxRecDepth 100000
set_option linter.unusedVariables false
namespace Go.Proofs.YtfcmhgneijipgaaGreat.Pm
open Go.ChangeShapes Go.WideShapes Go.ChangeAt Go.RowKit
open Ap (Scp Prt Tir Prm)
def inR (x a b : Int) : Bool := decide (a ≤ x) && decide (x ≤ b)
theorem inR_yes {x a b : Int} (h : a ≤ x) (k : x ≤ b) : inR x a b = true := by unfold inR; rw [decide_eq_true h, decide_eq_true k]; rfl
theorem inR_low {x a b : Int} (h : x < a) : inR x a b = false := by unfold inR; rw [decide_eq_false (by omega)]; rfl
theorem inR_high {x a b : Int} (h : b < x) : inR x a b = false := by unfold inR; rw [decide_eq_false (p := x ≤ b) (by omega), Bool.and_false]
theorem within64_any (x a b : Int) (w : World) : Calls Tryz.prog 161 #[.int .i64 x, .int .i64 a, .int .i64 b] w fun e w' => e = .returned (.bool (inR x a b)) ∧ w' = w := by
  by_cases h1 : a ≤ x
  · by_cases h2 : x ≤ b
    · have HG := Lib.hid (inR_yes h1 h2)
      go_enter Tryz.func161, Tryz.ntmps161
      go_wp2
      go_ret
      exact ⟨by rw [HG.out]; rfl, rfl⟩
    · have HG := Lib.hid (inR_high (a := a) (x := x) (b := b) (by omega))
      go_enter Tryz.func161, Tryz.ntmps161
      go_wp2
      go_ret
      exact ⟨by rw [HG.out]; rfl, rfl⟩
  · have HG := Lib.hid (inR_low (a := a) (x := x) (b := b) (by omega))
    go_enter Tryz.func161, Tryz.ntmps161
    go_wp2
    go_ret
    exact ⟨by rw [HG.out]; rfl, rfl⟩
theorem within_any (x a b : Int) (w : World) : Calls Tryz.prog 162 #[.int .i64 x, .int .i64 a, .int .i64 b] w fun e w' => e = .returned (.bool (inR x a b)) ∧ w' = w := by
  by_cases h1 : a ≤ x
  · by_cases h2 : x ≤ b
    · have HG := Lib.hid (inR_yes h1 h2)
      go_enter Tryz.func162, Tryz.ntmps162
      go_wp2
      go_ret
      exact ⟨by rw [HG.out]; rfl, rfl⟩
    · have HG := Lib.hid (inR_high (a := a) (x := x) (b := b) (by omega))
      go_enter Tryz.func162, Tryz.ntmps162
      go_wp2
      go_ret
      exact ⟨by rw [HG.out]; rfl, rfl⟩
  · have HG := Lib.hid (inR_low (a := a) (x := x) (b := b) (by omega))
    go_enter Tryz.func162, Tryz.ntmps162
    go_wp2
    go_ret
    exact ⟨by rw [HG.out]; rfl, rfl⟩
theorem blank_any (s : ByteArray) (w : World) (hs : s.size ≤ maxLen) : Calls Tryz.prog 165 #[.string s] w fun e w' => e = .returned (.bool (Pr.blankB s)) ∧ w' = w := by
  have HN := Lib.hid (fun W => Gd.name_any s W hs)
  clear hs
  cases e : s.toList.isEmpty with
  | true =>
    have HG : Hid (Pr.blankB s = true) := Lib.hid (by unfold Pr.blankB; rw [e]; rfl)
    have g : s.toList = [] := List.isEmpty_iff.1 e
    clear e
    go_enter Tryz.func165, Tryz.ntmps165
    go_wp2
    go_ret
    exact ⟨by rw [HG.out]; rfl, rfl⟩
  | false =>
    have g : ¬ s.toList = [] := fun k => by rw [k] at e; cases e
    have HG : Hid (Pr.blankB s = Sr.name s) := Lib.hid (by unfold Pr.blankB; rw [e]; rfl)
    have HE := Lib.hid e
    obtain ⟨b, hb⟩ : ∃ b, Sr.name s = b := ⟨_, rfl⟩
    simp only [hb] at HN HG
    clear e hb
    go_enter Tryz.func165, Tryz.ntmps165
    go_wp2_with fail
    refine (HN.out _).mono ?_
    rintro e w1 ⟨rfl, rfl⟩
    go_wp2
    go_ret
    refine ⟨?_, rfl⟩
    rw [HG.out]
    show Ending.returned (.bool (s.toList.isEmpty || b)) = _
    rw [HE.out]; rfl
def wh (t : Int) (b : Bool) : Int := if b then t else 0
theorem where_any (t : Int) (b : Bool) (w : World) : Calls Tryz.prog 166 #[.int .i64 t, .bool b] w fun e w' => e = .returned (.int .i64 (wh t b)) ∧ w' = w := by
  cases b with
  | true =>
    have HG : Hid (wh t true = t) := Lib.hid rfl
    go_enter Tryz.func166, Tryz.ntmps166
    go_wp2
    go_ret
    exact ⟨by rw [HG.out]; rfl, rfl⟩
  | false =>
    have HG : Hid (wh t false = 0) := Lib.hid rfl
    go_enter Tryz.func166, Tryz.ntmps166
    go_wp2
    go_ret
    exact ⟨by rw [HG.out]; rfl, rfl⟩
theorem rate_any (p : Prm) (l : Prm.Lay) (w : World) : Calls Tryz.prog 151 #[.agg #[.string p.id, .int .i64 p.kind, .int .i64 p.priority, .string p.group, .string p.code, .bool p.closes, .slice l.scope.skus.A l.scope.skus.n l.scope.skus.c, .slice l.scope.cats.A l.scope.cats.n l.scope.cats.c, .int .i64 p.least, .int .i64 p.rate, .int .i64 p.amount, .int .i64 p.buy, .int .i64 p.get, .slice l.parts.A l.parts.n l.parts.c, .slice l.tiers.A l.tiers.n l.tiers.c]] w fun e w' => e = .returned (.bool (inR p.rate 1 10000)) ∧ Below w.heap.size w w' := by
  have HW := Lib.hid (fun W => within64_any p.rate 1 10000 W)
  have HB : Hid (∀ o, Below w.heap.size w (w.alloc o)) := Lib.hid fun o => (Below.refl _ _).alloc (Nat.le_refl _) _
  obtain ⟨b, hb⟩ : ∃ b, inR p.rate 1 10000 = b := ⟨_, rfl⟩
  simp only [hb] at HW ⊢
  clear hb
  go_enter Tryz.func151, Tryz.ntmps151
  go_wp2_with fail
  refine (HW.out _).mono ?_
  rintro e w1 ⟨rfl, rfl⟩
  go_wp2
  go_ret
  exact ⟨rfl, HB.out _⟩
theorem amount_any (p : Prm) (l : Prm.Lay) (w : World) : Calls Tryz.prog 152 #[.agg #[.string p.id, .int .i64 p.kind, .int .i64 p.priority, .string p.group, .string p.code, .bool p.closes, .slice l.scope.skus.A l.scope.skus.n l.scope.skus.c, .slice l.scope.cats.A l.scope.cats.n l.scope.cats.c, .int .i64 p.least, .int .i64 p.rate, .int .i64 p.amount, .int .i64 p.buy, .int .i64 p.get, .slice l.parts.A l.parts.n l.parts.c, .slice l.tiers.A l.tiers.n l.tiers.c]] w fun e w' => e = .returned (.bool (inR p.amount 1 1000000000)) ∧ Below w.heap.size w w' := by
  have HW := Lib.hid (fun W => within64_any p.amount 1 1000000000 W)
  have HB : Hid (∀ o, Below w.heap.size w (w.alloc o)) := Lib.hid fun o => (Below.refl _ _).alloc (Nat.le_refl _) _
  obtain ⟨b, hb⟩ : ∃ b, inR p.amount 1 1000000000 = b := ⟨_, rfl⟩
  simp only [hb] at HW ⊢
  clear hb
  go_enter Tryz.func152, Tryz.ntmps152
  go_wp2_with fail
  refine (HW.out _).mono ?_
  rintro e w1 ⟨rfl, rfl⟩
  go_wp2
  go_ret
  exact ⟨rfl, HB.out _⟩
def takesB (t : Tir) : Bool := inR t.rate 0 10000 && inR t.amount 0 10000000000000 && (decide (0 < t.rate) || decide (0 < t.amount))
theorem takesB_def (t : Tir) : takesB t = (inR t.rate 0 10000 && inR t.amount 0 10000000000000 && (decide (0 < t.rate) || decide (0 < t.amount))) := rfl
set_option maxHeartbeats 1000000 in
theorem takes_any (t : Tir) (w : World) : Calls Tryz.prog 164 #[.agg #[.int .i64 t.least, .int .i64 t.rate, .int .i64 t.amount]] w fun e w' => e = .returned (.bool (takesB t)) ∧ Below w.heap.size w w' := by
  have HR := Lib.hid (fun W => within64_any t.rate 0 10000 W)
  have HA := Lib.hid (fun W => within64_any t.amount 0 10000000000000 W)
  have HB : Hid (∀ o, Below w.heap.size w (w.alloc o)) := Lib.hid fun o => (Below.refl _ _).alloc (Nat.le_refl _) _
  have HD := Lib.hid (takesB_def t)
  cases b1 : inR t.rate 0 10000 with
  | false =>
    simp only [b1] at HR
    have HG : Hid (takesB t = false) := Lib.hid (by rw [HD.out, b1]; rfl)
    clear b1
    go_enter Tryz.func164, Tryz.ntmps164
    go_wp2_with fail
    refine (HR.out _).mono ?_
    rintro e w1 ⟨rfl, rfl⟩
    go_wp2
    go_ret
    exact ⟨by rw [HG.out]; rfl, HB.out _⟩
  | true =>
    simp only [b1] at HR
    cases b2 : inR t.amount 0 10000000000000 with
    | false =>
      simp only [b2] at HA
      have HG : Hid (takesB t = false) := Lib.hid (by rw [HD.out, b1, b2]; rfl)
      clear b1 b2
      go_enter Tryz.func164, Tryz.ntmps164
      go_wp2_with fail
      refine (HR.out _).mono ?_
      rintro e w1 ⟨rfl, rfl⟩
      go_wp2_with fail
      refine (HA.out _).mono ?_
      rintro e w1 ⟨rfl, rfl⟩
      go_wp2
      go_ret
      exact ⟨by rw [HG.out]; rfl, HB.out _⟩
    | true =>
      simp only [b2] at HA
      by_cases h1 : 0 < t.rate
      · have HG : Hid (takesB t = true) := Lib.hid (by rw [HD.out, b1, b2, decide_eq_true h1]; rfl)
        clear b1 b2
        go_enter Tryz.func164, Tryz.ntmps164
        go_wp2_with fail
        refine (HR.out _).mono ?_
        rintro e w1 ⟨rfl, rfl⟩
        go_wp2_with fail
        refine (HA.out _).mono ?_
        rintro e w1 ⟨rfl, rfl⟩
        go_wp2
        go_ret
        exact ⟨by rw [HG.out]; rfl, HB.out _⟩
      · have HG : Hid (takesB t = decide (0 < t.amount)) := Lib.hid (by rw [HD.out, b1, b2, decide_eq_false h1]; rfl)
        clear b1 b2
        go_enter Tryz.func164, Tryz.ntmps164
        go_wp2_with fail
        refine (HR.out _).mono ?_
        rintro e w1 ⟨rfl, rfl⟩
        go_wp2_with fail
        refine (HA.out _).mono ?_
        rintro e w1 ⟨rfl, rfl⟩
        go_wp2
        go_ret
        refine ⟨?_, HB.out _⟩
        rw [HG.out]
        show Ending.returned (.bool (decide (0 < t.rate) || decide (0 < t.amount))) = _
        rw [decide_eq_false (by omega : ¬ 0 < t.rate)]; rfl
def rowsB (p : Prm) : Bool := inR p.buy 1 100 && inR p.get 1 100 && inR p.rate 1 10000
theorem rowsB_def (p : Prm) : rowsB p = (inR p.buy 1 100 && inR p.get 1 100 && inR p.rate 1 10000) := rfl
set_option maxHeartbeats 2000000 in
theorem rows_any (p : Prm) (l : Prm.Lay) (w : World) : Calls Tryz.prog 153 #[.agg #[.string p.id, .int .i64 p.kind, .int .i64 p.priority, .string p.group, .string p.code, .bool p.closes, .slice l.scope.skus.A l.scope.skus.n l.scope.skus.c, .slice l.scope.cats.A l.scope.cats.n l.scope.cats.c, .int .i64 p.least, .int .i64 p.rate, .int .i64 p.amount, .int .i64 p.buy, .int .i64 p.get, .slice l.parts.A l.parts.n l.parts.c, .slice l.tiers.A l.tiers.n l.tiers.c]] w fun e w' => e = .returned (.bool (rowsB p)) ∧ Below w.heap.size w w' := by
  have H1 := Lib.hid (fun W => within_any p.buy 1 100 W)
  have H2 := Lib.hid (fun W => within_any p.get 1 100 W)
  have H3 := Lib.hid (fun W => rate_any p l W)
  obtain ⟨w1, hw1⟩ : ∃ w1, w.alloc (.cells #[.string p.id, .int .i64 p.kind, .int .i64 p.priority, .string p.group, .string p.code, .bool p.closes, .slice l.scope.skus.A l.scope.skus.n l.scope.skus.c, .slice l.scope.cats.A l.scope.cats.n l.scope.cats.c, .int .i64 p.least, .int .i64 p.rate, .int .i64 p.amount, .int .i64 p.buy, .int .i64 p.get, .slice l.parts.A l.parts.n l.parts.c, .slice l.tiers.A l.tiers.n l.tiers.c] 139) = w1 := ⟨_, rfl⟩
  have hx : Qu.Blk w1 w.heap.size 139 #[.string p.id, .int .i64 p.kind, .int .i64 p.priority, .string p.group, .string p.code, .bool p.closes, .slice l.scope.skus.A l.scope.skus.n l.scope.skus.c, .slice l.scope.cats.A l.scope.cats.n l.scope.cats.c, .int .i64 p.least, .int .i64 p.rate, .int .i64 p.amount, .int .i64 p.buy, .int .i64 p.get, .slice l.parts.A l.parts.n l.parts.c, .slice l.tiers.A l.tiers.n l.tiers.c] := by rw [← hw1]; exact Qu.Blk.new w _ _
  have HB : Hid (Below w.heap.size w w1) := Lib.hid (by rw [← hw1]; exact (Below.refl _ _).alloc (Nat.le_refl _) _)
  have x0 := hx.cell 0
  have x1 := hx.cell 1
  have x2 := hx.cell 2
  have x3 := hx.cell 3
  have x4 := hx.cell 4
  have x5 := hx.cell 5
  have x6 := hx.cell 6
  have x7 := hx.cell 7
  have x8 := hx.cell 8
  have x9 := hx.cell 9
  have x10 := hx.cell 10
  have x11 := hx.cell 11
  have x12 := hx.cell 12
  have x13 := hx.cell 13
  have x14 := hx.cell 14
  have HD := Lib.hid (rowsB_def p)
  clear hx
  cases b1 : inR p.buy 1 100 with
  | false =>
    simp only [b1] at H1
    have HG : Hid (rowsB p = false) := Lib.hid (by rw [HD.out, b1]; rfl)
    clear b1
    go_enter Tryz.func153, Tryz.ntmps153
    go_wp2_with fail
    refine (H1.out _).mono ?_
    rintro e w2 ⟨rfl, rfl⟩
    go_wp2
    go_ret
    exact ⟨by rw [HG.out]; rfl, HB.out⟩
  | true =>
    simp only [b1] at H1
    cases b2 : inR p.get 1 100 with
    | false =>
      simp only [b2] at H2
      have HG : Hid (rowsB p = false) := Lib.hid (by rw [HD.out, b1, b2]; rfl)
      clear b1 b2
      go_enter Tryz.func153, Tryz.ntmps153
      go_wp2_with fail
      refine (H1.out _).mono ?_
      rintro e w2 ⟨rfl, rfl⟩
      go_wp2_with fail
      refine (H2.out _).mono ?_
      rintro e w2 ⟨rfl, rfl⟩
      go_wp2
      go_ret
      exact ⟨by rw [HG.out]; rfl, HB.out⟩
    | true =>
      simp only [b2] at H2
      have HG : Hid (rowsB p = inR p.rate 1 10000) := Lib.hid (by rw [HD.out, b1, b2]; rfl)
      obtain ⟨b, hb⟩ : ∃ b, inR p.rate 1 10000 = b := ⟨_, rfl⟩
      simp only [hb] at H3 HG
      clear b1 b2 hb
      go_enter Tryz.func153, Tryz.ntmps153
      go_wp2_with fail
      refine (H1.out _).mono ?_
      rintro e w2 ⟨rfl, rfl⟩
      go_wp2_with fail
      refine (H2.out _).mono ?_
      rintro e w2 ⟨rfl, rfl⟩
      go_wp2_with fail
      refine (H3.out _).mono ?_
      rintro e w3 ⟨rfl, hb3⟩
      have HB3 := Lib.hid (HB.out.trans (hb3.mono HB.out.size))
      clear hb3
      go_wp2
      go_ret
      exact ⟨by rw [HG.out]; rfl, HB3.out⟩
end Go.Proofs.YtfcmhgneijipgaaGreat.Pm

end

section
set_option maxRecDepth 100000
set_option linter.unusedVariables false
namespace Go.Proofs.YtfcmhgneijipgaaGreat.Ru
open Go.ChangeShapes Go.WideShapes Go.ChangeAt Go.RowKit
open Ap (CtR Zon Txs Shp Pol Rls kCtR kZon row_CtR row_Zon)
open Kd (Row Lst Sl Fit Agree kInt row_int)
theorem within64_any (x a b : Int) (w : World) : Calls Tryz.prog 72 #[.int .i64 x, .int .i64 a, .int .i64 b] w fun e w' => e = .returned (.bool (Pm.inR x a b)) ∧ w' = w := by
  by_cases h1 : a ≤ x
  · by_cases h2 : x ≤ b
    · have HG := Lib.hid (Pm.inR_yes h1 h2)
      go_enter Tryz.func72, Tryz.ntmps72
      go_wp2
      go_ret
      exact ⟨by rw [HG.out]; rfl, rfl⟩
    · have HG := Lib.hid (Pm.inR_high (a := a) (x := x) (b := b) (by omega))
      go_enter Tryz.func72, Tryz.ntmps72
      go_wp2
      go_ret
      exact ⟨by rw [HG.out]; rfl, rfl⟩
  · have HG := Lib.hid (Pm.inR_low (a := a) (x := x) (b := b) (by omega))
    go_enter Tryz.func72, Tryz.ntmps72
    go_wp2
    go_ret
    exact ⟨by rw [HG.out]; rfl, rfl⟩
theorem within_any (x a b : Int) (w : World) : Calls Tryz.prog 39 #[.int .i64 x, .int .i64 a, .int .i64 b] w fun e w' => e = .returned (.bool (Pm.inR x a b)) ∧ w' = w := by
  by_cases h1 : a ≤ x
  · by_cases h2 : x ≤ b
    · have HG := Lib.hid (Pm.inR_yes h1 h2)
      go_enter Tryz.func39, Tryz.ntmps39
      go_wp2
      go_ret
      exact ⟨by rw [HG.out]; rfl, rfl⟩
    · have HG := Lib.hid (Pm.inR_high (a := a) (x := x) (b := b) (by omega))
      go_enter Tryz.func39, Tryz.ntmps39
      go_wp2
      go_ret
      exact ⟨by rw [HG.out]; rfl, rfl⟩
  · have HG := Lib.hid (Pm.inR_low (a := a) (x := x) (b := b) (by omega))
    go_enter Tryz.func39, Tryz.ntmps39
    go_wp2
    go_ret
    exact ⟨by rw [HG.out]; rfl, rfl⟩
theorem rateRight_any (x : Int) (w : World) : Calls Tryz.prog 73 #[.int .i64 x] w fun e w' => e = .returned (.bool (inB x 10000)) ∧ w' = w := by
  have HC := Lib.hid (fun W => within64_any x 0 10000 W)
  go_enter Tryz.func73, Tryz.ntmps73
  go_wp2_with fail
  refine (HC.out _).mono ?_
  rintro e w1 ⟨rfl, rfl⟩
  go_wp2
  go_ret
  exact ⟨rfl, rfl⟩
theorem zoneName_any (x : Zon) (l : Zon.Lay) (w : World) : Calls Tryz.prog 41 #[.agg #[.string x.name, .slice l.rates.A l.rates.n l.rates.c, .int .i64 x.rest, .int .i64 x.ship]] w fun e w' => e = .returned (.string x.name) ∧ Below w.heap.size w w' := by
  have HB : Hid (∀ o, Below w.heap.size w (w.alloc o)) := Lib.hid fun o => (Below.refl _ _).alloc (Nat.le_refl _) _
  go_enter Tryz.func41, Tryz.ntmps41
  go_wp2
  go_ret
  exact ⟨rfl, HB.out _⟩
theorem rateName_any (x : CtR) (w : World) : Calls Tryz.prog 79 #[.agg #[.string x.cat, .int .i64 x.rate]] w fun e w' => e = .returned (.string x.cat) ∧ Below w.heap.size w w' := by
  have HB : Hid (∀ o, Below w.heap.size w (w.alloc o)) := Lib.hid fun o => (Below.refl _ _).alloc (Nat.le_refl _) _
  go_enter Tryz.func79, Tryz.ntmps79
  go_wp2
  go_ret
  exact ⟨rfl, HB.out _⟩
theorem wrongRate_any (x : CtR) (w : World) : Calls Tryz.prog 81 #[.agg #[.string x.cat, .int .i64 x.rate]] w fun e w' => e = .returned (.bool (!inB x.rate 10000)) ∧ Below w.heap.size w w' := by
  have HB : Hid (∀ o, Below w.heap.size w (w.alloc o)) := Lib.hid fun o => (Below.refl _ _).alloc (Nat.le_refl _) _
  have HC := Lib.hid (fun W => rateRight_any x.rate W)
  go_enter Tryz.func81, Tryz.ntmps81
  go_wp2_with fail
  refine (HC.out _).mono ?_
  rintro e w1 ⟨rfl, rfl⟩
  go_wp2
  go_ret
  exact ⟨rfl, HB.out _⟩
set_option maxHeartbeats 4000000 in
theorem shipRight_any (x : Shp) (w : World)  :
    Calls Tryz.prog 33 #[.agg #[.int .i64 x.fee, .int .i64 x.free]] w fun e w' => e = .returned (.bool ((decide (0 ≤ x.fee) && decide (x.fee ≤ 1000000000)) && (decide (0 ≤ x.free) && decide (x.free ≤ 10000000000000)))) ∧ Below w.heap.size w w' := by
  obtain ⟨W1, hW1⟩ : ∃ W1, w.alloc (.cells #[.int .i64 x.fee, .int .i64 x.free] 28) = W1 := ⟨_, rfl⟩
  have hB : Below w.heap.size w W1 := by rw [← hW1]; exact (Below.refl _ _).alloc (Nat.le_refl _) _
  have hbx : Qu.Blk W1 w.heap.size 28 #[.int .i64 x.fee, .int .i64 x.free] := by rw [← hW1]; exact Qu.Blk.new w _ _
  have HO0 : Hid (∀ W, Below W1.heap.size W1 W → Calls Tryz.prog 72 #[.int .i64 x.fee, .int .i64 0, .int .i64 1000000000] W fun e w' => e = .returned (.bool (Pm.inR x.fee 0 1000000000)) ∧ Below W1.heap.size W1 w') := Lib.hid fun W hW =>
    (within64_any x.fee 0 1000000000 W).mono fun e w' he => ⟨he.1, Hk.andThen hW (by first | exact he.2 | (rw [he.2]; exact Below.refl _ _))⟩
  have HO1 : Hid (∀ W, Below W1.heap.size W1 W → Calls Tryz.prog 72 #[.int .i64 x.free, .int .i64 0, .int .i64 10000000000000] W fun e w' => e = .returned (.bool (Pm.inR x.free 0 10000000000000)) ∧ Below W1.heap.size W1 w') := Lib.hid fun W hW =>
    (within64_any x.free 0 10000000000000 W).mono fun e w' he => ⟨he.1, Hk.andThen hW (by first | exact he.2 | (rw [he.2]; exact Below.refl _ _))⟩
  have x0 := hbx.cell 0
  have x1 := hbx.cell 1
  have HB := Lib.hid (And.intro hB hbx)
  have HZ : Hid (((decide (0 ≤ x.fee) && decide (x.fee ≤ 1000000000)) && (decide (0 ≤ x.free) && decide (x.free ≤ 10000000000000))) = (Pm.inR x.fee 0 1000000000 && Pm.inR x.free 0 10000000000000)) := Lib.hid (by rfl)
  obtain ⟨v0, hv0⟩ : ∃ b, (Pm.inR x.fee 0 1000000000) = b := ⟨_, rfl⟩
  simp only [hv0] at HO0 HZ
  obtain ⟨v1, hv1⟩ : ∃ b, (Pm.inR x.free 0 10000000000000) = b := ⟨_, rfl⟩
  simp only [hv1] at HO1 HZ
  clear hv0 hv1 hbx hB
  go_enter Tryz.func33, Tryz.ntmps33
  go_wp2_with fail
  refine (HO0.out _ (Below.refl _ _)).mono ?_
  rintro e wz0 ⟨rfl, hz0⟩
  have x0 := (HB.out.2.below hz0).cell 0
  have x1 := (HB.out.2.below hz0).cell 1
  cases v0 with
  | false =>
    go_wp2
    go_ret
    exact ⟨by rw [HZ.out]; rfl, HB.out.1.trans (hz0.mono HB.out.1.size)⟩
  | true =>
    go_wp2_with fail
    refine (HO1.out _ hz0).mono ?_
    rintro e wz1 ⟨rfl, hz1⟩
    have x0 := (HB.out.2.below hz1).cell 0
    have x1 := (HB.out.2.below hz1).cell 1
    cases v1 with
    | false =>
      go_wp2
      go_ret
      exact ⟨by rw [HZ.out]; rfl, HB.out.1.trans (hz1.mono HB.out.1.size)⟩
    | true =>
      go_wp2
      go_ret
      exact ⟨by rw [HZ.out]; rfl, HB.out.1.trans (hz1.mono HB.out.1.size)⟩
/-! ### Names that rise -/
structure Names {α : Type} (f : α → ByteArray) (l : List α) : Prop where
  each : ∀ (i : Nat) (x : α), l[i]? = some x → Sr.name (f x) = true
  rise : ∀ (i : Nat) (x y : α), l[i]? = some x → l[i + 1]? = some y → Sr.lt (f x) (f y) = true
noncomputable def namesB {α : Type} (f : α → ByteArray) (l : List α) : Bool := @decide (Names f l) (Classical.propDecidable _)
theorem namesB_yes {α : Type} {f : α → ByteArray} {l : List α} (h : Names f l) : namesB f l = true := by unfold namesB; exact @decide_eq_true _ (Classical.propDecidable _) h
theorem namesB_no {α : Type} {f : α → ByteArray} {l : List α} (h : ¬ Names f l) : namesB f l = false := by unfold namesB; exact @decide_eq_false _ (Classical.propDecidable _) h
theorem namesB_iff {α : Type} {f : α → ByteArray} {l : List α} : namesB f l = true ↔ Names f l := by unfold namesB; exact @decide_eq_true_iff _ (Classical.propDecidable _)
structure NUp {α : Type} (f : α → ByteArray) (l : List α) (k : Nat) : Prop where
  each : ∀ (i : Nat) (x : α), i < k → l[i]? = some x → Sr.name (f x) = true
  rise : ∀ (i : Nat) (x y : α), i + 1 < k → l[i]? = some x → l[i + 1]? = some y → Sr.lt (f x) (f y) = true
theorem NUp.begin {α : Type} (f : α → ByteArray) (l : List α) : NUp f l 0 := ⟨fun i x h => by omega, fun i x y h => by omega⟩
theorem NUp.next {α : Type} {f : α → ByteArray} {l : List α} {k : Nat} {x : α} (h : NUp f l k) (hx : l[k]? = some x) (hb : Sr.name (f x) = true) (hr : ∀ y, 0 < k → l[k - 1]? = some y → Sr.lt (f y) (f x) = true) : NUp f l (k + 1) :=
  ⟨fun i y hi hy => by
    rcases Nat.lt_or_ge i k with h1 | h1
    · exact h.each i y h1 hy
    · obtain rfl : i = k := by omega
      rw [hx] at hy; injection hy with hy; subst hy; exact hb,
   fun i y z hi hy hz => by
    rcases Nat.lt_or_ge (i + 1) k with h1 | h1
    · exact h.rise i y z h1 hy hz
    · obtain rfl : k = i + 1 := by omega
      rw [hx] at hz; injection hz with hz; subst hz
      exact hr y (by omega) (by rw [show i + 1 - 1 = i by omega]; exact hy)⟩
theorem NUp.all {α : Type} {f : α → ByteArray} {l : List α} (h : NUp f l l.length) : namesB f l = true :=
  namesB_yes ⟨fun i x hx => h.each i x (List.getElem?_eq_some_iff.1 hx).1 hx, fun i x y hx hy => h.rise i x y (List.getElem?_eq_some_iff.1 hy).1 hx hy⟩
theorem names_bad {α : Type} {f : α → ByteArray} {l : List α} {k : Nat} {x : α} (hx : l[k]? = some x) (h : Sr.name (f x) = false) : namesB f l = false :=
  namesB_no fun hn => by rw [hn.each k x hx] at h; cases h
theorem names_step {α : Type} {f : α → ByteArray} {l : List α} {k : Nat} {x y : α} (hx : l[k]? = some x) (hy : l[k - 1]? = some y) (hk : 0 < k) (h : Sr.lt (f y) (f x) = false) : namesB f l = false :=
  namesB_no fun hn => by
    rw [hn.rise (k - 1) y x hy (by rw [show k - 1 + 1 = k by omega]; exact hx)] at h; cases h
/-! ### What it comes to -/
theorem any_no {α : Type} {p : α → Bool} {l : List α} : (l.any fun x => !p x) = false ↔ ∀ (i : Nat) (x : α), l[i]? = some x → p x = true := by
  rw [List.any_eq_false]
  constructor
  · intro h i x hx
    have := h x (List.mem_of_getElem? hx)
    simpa using this
  · intro h x hx
    obtain ⟨i, hi⟩ := List.mem_iff_getElem?.1 hx
    simp [h i x hi]
theorem rates_split (l : List CtR) : ratesB l = (decide (l.length ≤ 40) && namesB CtR.cat l && !(l.any fun x => !inB x.rate 10000)) := by
  rw [Bool.eq_iff_iff]
  simp only [Bool.and_eq_true, Bool.not_eq_true', any_no, namesB_iff, decide_eq_true_eq]
  unfold ratesB
  rw [@decide_eq_true_iff _ (Classical.propDecidable _)]
  constructor
  · rintro ⟨h1, h2, h3⟩
    refine ⟨⟨h3, fun i x hx => ?_, h2⟩, fun i x hx => ?_⟩
    · have := h1 i x hx; unfold rateB at this; rw [Bool.and_eq_true] at this; exact this.1
    · have := h1 i x hx; unfold rateB at this; rw [Bool.and_eq_true] at this; exact this.2
  · rintro ⟨⟨h3, h1, h2⟩, h4⟩
    exact ⟨fun i x hx => by unfold rateB; rw [h1 i x hx, h4 i x hx]; rfl, h2, h3⟩
theorem zones_split (l : List Zon) : zonesB l = (decide (l.length ≤ 20) && namesB Zon.name l && !(l.any fun x => !zoneB x)) := by
  rw [Bool.eq_iff_iff]
  simp only [Bool.and_eq_true, Bool.not_eq_true', any_no, namesB_iff, decide_eq_true_eq]
  unfold zonesB
  rw [@decide_eq_true_iff _ (Classical.propDecidable _)]
  constructor
  · rintro ⟨h1, h2, h3⟩
    refine ⟨⟨h3, fun i x hx => ?_, h2⟩, fun i x hx => ?_⟩
    · have := h1 i x hx; unfold zonB at this; rw [Bool.and_eq_true] at this; exact this.1
    · have := h1 i x hx; unfold zonB at this; rw [Bool.and_eq_true] at this; exact this.2
  · rintro ⟨⟨h3, h1, h2⟩, h4⟩
    exact ⟨fun i x hx => by unfold zonB; rw [h1 i x hx, h4 i x hx]; rfl, h2, h3⟩
end Go.Proofs.YtfcmhgneijipgaaGreat.Ru

end
