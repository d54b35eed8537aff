/- The landed package goods: a contract a call. · The landed promo's small asks: bounds, names, a rate, an amount, rows. · The document's scopes: names, has, Scope, Has, Index. · The document's parts and tiers. · The landed package scope: what its lists of names are asked. -/
import Derived.Deep.Quiet
import Derived.Deep.QuietTactic
import Derived.Deep.RegionHeld3
import Derived.Test.YtacmoanhbkipfaaPq1
import Derived.Test.YtacmoanhbkipfaaPq2
import Derived.Test.YtacmoanhbkipfaaPq6

section
set_option maxRecDepth 100000
set_option linter.unusedVariables false
namespace Go.Proofs.Ytacmoanhbkipfaa.Gd
open Go.ChangeShapes Go.WideShapes Go.ChangeAt Go.RowKit
open It (Itm kItem row_item row_ok)
open Kd (Row Fit)
theorem plain_any (z : Int) (w : World) (h0 : 0 ≤ z) (h1 : z ≤ 255) : Calls Try.prog 71 #[.int .u8 z] w fun e w' => e = .returned (.bool (Sr.plain z)) ∧ w' = w := by
  obtain ⟨hp, c1, c2⟩ | ⟨hp, c1, c2, c3⟩ | ⟨hp, c1, c2⟩ | ⟨hp, c1, d0⟩ | ⟨hp, c1, c2, d0⟩ | ⟨hp, c1, d0⟩ := Py.plain_cases z
  · rw [hp]; clear hp
    go_enter Try.func71, Try.ntmps71
    go_wp2
    go_ret
    exact ⟨rfl, rfl⟩
  · rw [hp]; clear hp
    have d1 : ¬ (97 : Int) ≤ z := by omega
    go_enter Try.func71, Try.ntmps71
    go_wp2
    go_ret
    exact ⟨rfl, rfl⟩
  · rw [hp]; clear hp
    subst c2
    go_enter Try.func71, Try.ntmps71
    go_wp2
    go_ret
    exact ⟨rfl, rfl⟩
  · rw [hp]; clear hp
    have d1 : (97 : Int) ≤ z := by omega
    have d2 : ¬ z ≤ (122 : Int) := by omega
    have d3 : (48 : Int) ≤ z := by omega
    have d4 : ¬ z ≤ (57 : Int) := by omega
    have d5 : (z == 45) = false := beq_eq_false_iff_ne.2 d0
    go_enter Try.func71, Try.ntmps71
    go_wp2
    go_ret
    exact ⟨rfl, rfl⟩
  · rw [hp]; clear hp
    have d1 : ¬ (97 : Int) ≤ z := by omega
    have d3 : (48 : Int) ≤ z := by omega
    have d4 : ¬ z ≤ (57 : Int) := by omega
    have d5 : (z == 45) = false := beq_eq_false_iff_ne.2 (by omega)
    go_enter Try.func71, Try.ntmps71
    go_wp2
    go_ret
    exact ⟨rfl, rfl⟩
  · rw [hp]; clear hp
    have d1 : ¬ (97 : Int) ≤ z := by omega
    have d3 : ¬ (48 : Int) ≤ z := by omega
    have d5 : (z == 45) = false := beq_eq_false_iff_ne.2 d0
    go_enter Try.func71, Try.ntmps71
    go_wp2
    go_ret
    exact ⟨rfl, rfl⟩
set_option maxHeartbeats 1000000 in
theorem name_any (s : ByteArray) (w : World) (hs : s.size ≤ maxLen) : Calls Try.prog 61 #[.string s] w fun e w' => e = .returned (.bool (Sr.name s)) ∧ w' = w := by
  unfold maxLen at hs
  by_cases c1 : s.size < 1
  · have d1 : (s.size : Int) < 1 := by omega
    have HF := Lib.hid (Sr.name_none c1)
    clear c1
    go_enter Try.func61, Try.ntmps61
    go_wp2
    go_ret
    exact ⟨by rw [HF.out]; rfl, rfl⟩
  by_cases c2 : 12 < s.size
  · have d1 : ¬ (s.size : Int) < 1 := by omega
    have d2 : (12 : Int) < (s.size : Int) := by omega
    have HF := Lib.hid (Sr.name_long c2)
    clear c1 c2
    go_enter Try.func61, Try.ntmps61
    go_wp2
    go_ret
    exact ⟨by rw [HF.out]; rfl, rfl⟩
  have d1 : ¬ (s.size : Int) < 1 := by omega
  have d2 : ¬ (12 : Int) < (s.size : Int) := by omega
  have hA := fun k (hk : k < s.size) W => Py.run_at 9 Try.underlying9 s k hk W
  have HA := Lib.hid hA
  clear hA
  go_enter Try.func61, Try.ntmps61
  go_wp2
  go_loopw [14] (fun s3 wr => ∃ k : Nat, s3 = .int .i64 k ∧ k ≤ s.size ∧ wr = w ∧ ∀ (j : Nat) (b : UInt8), j < k → s.data.toList[j]? = some b → Sr.plain (b.toNat : Int) = true) (fun s3 _ => s.size - (intOf s3).toNat)
  case atStart => exact ⟨0, rfl, by omega, rfl, fun j b hj => by omega⟩
  case round =>
    obtain ⟨k, rfl, hk, rfl, hE⟩ := hrel
    have HE := Lib.hid hE
    clear hE
    by_cases h1 : k < s.size
    · have k1 : (k : Int) < (s.size : Int) := by omega
      have hi := HA.out k h1 wr
      obtain ⟨b, hb1, hb2⟩ := Py.byte_at h1
      rw [hb2] at hi
      have HB := Lib.hid hb1
      have hbn := By.at_in s.data.toList k
      rw [hb2] at hbn
      clear hb1 hb2
      obtain ⟨z, hz⟩ : ∃ z : Int, (b.toNat : Int) = z := ⟨_, rfl⟩
      have HZ := Lib.hid hz
      rw [hz] at hi hbn
      clear hz
      have HC := Lib.hid (plain_any z wr hbn.1 hbn.2)
      cases hp : Sr.plain z with
      | true =>
        rw [hp] at HC
        have HP := Lib.hid hp
        clear hp
        go_wp2_with fail
        refine HC.out.mono ?_
        rintro e w1 ⟨rfl, rfl⟩
        go_wp2
        go_roundw
        case rel => exact ⟨k + 1, by go_num, by omega, by trivial, fun j b' hj hb' => by
          rcases Nat.lt_or_ge j k with h | h
          · exact HE.out j b' h hb'
          · obtain rfl : j = k := by omega
            rw [HB.out] at hb'
            injection hb' with hb'
            subst hb'
            rw [HZ.out]; exact HP.out⟩
        case measure => simp [intOf]; omega
      | false =>
        rw [hp] at HC
        have HF := Lib.hid (Sr.name_bad HB.out (by rw [HZ.out]; exact hp))
        clear hp
        go_wp2_with fail
        refine HC.out.mono ?_
        rintro e w1 ⟨rfl, rfl⟩
        go_wp2
        go_ret
        exact ⟨by rw [HF.out]; rfl, rfl⟩
    · have k1 : ¬ (k : Int) < (s.size : Int) := by omega
      have HF : Hid (Sr.name s = true) := Lib.hid (by
        rw [Sr.name_size fun j b hj => HE.out j b (by
          have := (List.getElem?_eq_some_iff.1 hj).1
          rw [By.size_list] at this
          omega) hj]
        simp
        omega)
      go_wp2
      go_ret
      exact ⟨by rw [HF.out]; rfl, rfl⟩
/-! ### What rises -/
end Go.Proofs.Ytacmoanhbkipfaa.Gd

end

section
set_option maxRecDepth 100000
set_option linter.unusedVariables false
namespace Go.Proofs.Ytacmoanhbkipfaa.Pm
open Go.ChangeShapes Go.WideShapes Go.ChangeAt Go.RowKit
open Ap (Scp Prt Tir Prm)
def inR (x a b : Int) : Bool := decide (a ≤ x) && decide (x ≤ b)
theorem inR_yes {x a b : Int} (h : a ≤ x) (k : x ≤ b) : inR x a b = true := by unfold inR; rw [decide_eq_true h, decide_eq_true k]; rfl
theorem inR_low {x a b : Int} (h : x < a) : inR x a b = false := by unfold inR; rw [decide_eq_false (by omega)]; rfl
theorem inR_high {x a b : Int} (h : b < x) : inR x a b = false := by unfold inR; rw [decide_eq_false (p := x ≤ b) (by omega), Bool.and_false]
theorem within64_any (x a b : Int) (w : World) : Calls Try.prog 57 #[.int .i64 x, .int .i64 a, .int .i64 b] w fun e w' => e = .returned (.bool (inR x a b)) ∧ w' = w := by
  by_cases h1 : a ≤ x
  · by_cases h2 : x ≤ b
    · have HG := Lib.hid (inR_yes h1 h2)
      go_enter Try.func57, Try.ntmps57
      go_wp2
      go_ret
      exact ⟨by rw [HG.out]; rfl, rfl⟩
    · have HG := Lib.hid (inR_high (a := a) (x := x) (b := b) (by omega))
      go_enter Try.func57, Try.ntmps57
      go_wp2
      go_ret
      exact ⟨by rw [HG.out]; rfl, rfl⟩
  · have HG := Lib.hid (inR_low (a := a) (x := x) (b := b) (by omega))
    go_enter Try.func57, Try.ntmps57
    go_wp2
    go_ret
    exact ⟨by rw [HG.out]; rfl, rfl⟩
theorem within_any (x a b : Int) (w : World) : Calls Try.prog 58 #[.int .i64 x, .int .i64 a, .int .i64 b] w fun e w' => e = .returned (.bool (inR x a b)) ∧ w' = w := by
  by_cases h1 : a ≤ x
  · by_cases h2 : x ≤ b
    · have HG := Lib.hid (inR_yes h1 h2)
      go_enter Try.func58, Try.ntmps58
      go_wp2
      go_ret
      exact ⟨by rw [HG.out]; rfl, rfl⟩
    · have HG := Lib.hid (inR_high (a := a) (x := x) (b := b) (by omega))
      go_enter Try.func58, Try.ntmps58
      go_wp2
      go_ret
      exact ⟨by rw [HG.out]; rfl, rfl⟩
  · have HG := Lib.hid (inR_low (a := a) (x := x) (b := b) (by omega))
    go_enter Try.func58, Try.ntmps58
    go_wp2
    go_ret
    exact ⟨by rw [HG.out]; rfl, rfl⟩
theorem blank_any (s : ByteArray) (w : World) (hs : s.size ≤ maxLen) : Calls Try.prog 62 #[.string s] w fun e w' => e = .returned (.bool (Pr.blankB s)) ∧ w' = w := by
  have HN := Lib.hid (fun W => Gd.name_any s W hs)
  clear hs
  cases e : s.toList.isEmpty with
  | true =>
    have HG : Hid (Pr.blankB s = true) := Lib.hid (by unfold Pr.blankB; rw [e]; rfl)
    have g : s.toList = [] := List.isEmpty_iff.1 e
    clear e
    go_enter Try.func62, Try.ntmps62
    go_wp2
    go_ret
    exact ⟨by rw [HG.out]; rfl, rfl⟩
  | false =>
    have g : ¬ s.toList = [] := fun k => by rw [k] at e; cases e
    have HG : Hid (Pr.blankB s = Sr.name s) := Lib.hid (by unfold Pr.blankB; rw [e]; rfl)
    have HE := Lib.hid e
    obtain ⟨b, hb⟩ : ∃ b, Sr.name s = b := ⟨_, rfl⟩
    simp only [hb] at HN HG
    clear e hb
    go_enter Try.func62, Try.ntmps62
    go_wp2_with fail
    refine (HN.out _).mono ?_
    rintro e w1 ⟨rfl, rfl⟩
    go_wp2
    go_ret
    refine ⟨?_, rfl⟩
    rw [HG.out]
    show Ending.returned (.bool (s.toList.isEmpty || b)) = _
    rw [HE.out]; rfl
def wh (t : Int) (b : Bool) : Int := if b then t else 0
theorem where_any (t : Int) (b : Bool) (w : World) : Calls Try.prog 63 #[.int .i64 t, .bool b] w fun e w' => e = .returned (.int .i64 (wh t b)) ∧ w' = w := by
  cases b with
  | true =>
    have HG : Hid (wh t true = t) := Lib.hid rfl
    go_enter Try.func63, Try.ntmps63
    go_wp2
    go_ret
    exact ⟨by rw [HG.out]; rfl, rfl⟩
  | false =>
    have HG : Hid (wh t false = 0) := Lib.hid rfl
    go_enter Try.func63, Try.ntmps63
    go_wp2
    go_ret
    exact ⟨by rw [HG.out]; rfl, rfl⟩
theorem rate_any (p : Prm) (l : Prm.Lay) (w : World) : Calls Try.prog 41 #[.agg #[.string p.id, .int .i64 p.kind, .int .i64 p.priority, .string p.group, .string p.code, .bool p.closes, .slice l.scope.skus.A l.scope.skus.n l.scope.skus.c, .slice l.scope.cats.A l.scope.cats.n l.scope.cats.c, .int .i64 p.least, .int .i64 p.rate, .int .i64 p.amount, .int .i64 p.buy, .int .i64 p.get, .slice l.parts.A l.parts.n l.parts.c, .slice l.tiers.A l.tiers.n l.tiers.c]] w fun e w' => e = .returned (.bool (inR p.rate 1 10000)) ∧ Below w.heap.size w w' := by
  have HW := Lib.hid (fun W => within64_any p.rate 1 10000 W)
  have HB : Hid (∀ o, Below w.heap.size w (w.alloc o)) := Lib.hid fun o => (Below.refl _ _).alloc (Nat.le_refl _) _
  obtain ⟨b, hb⟩ : ∃ b, inR p.rate 1 10000 = b := ⟨_, rfl⟩
  simp only [hb] at HW ⊢
  clear hb
  go_enter Try.func41, Try.ntmps41
  go_wp2_with fail
  refine (HW.out _).mono ?_
  rintro e w1 ⟨rfl, rfl⟩
  go_wp2
  go_ret
  exact ⟨rfl, HB.out _⟩
theorem amount_any (p : Prm) (l : Prm.Lay) (w : World) : Calls Try.prog 42 #[.agg #[.string p.id, .int .i64 p.kind, .int .i64 p.priority, .string p.group, .string p.code, .bool p.closes, .slice l.scope.skus.A l.scope.skus.n l.scope.skus.c, .slice l.scope.cats.A l.scope.cats.n l.scope.cats.c, .int .i64 p.least, .int .i64 p.rate, .int .i64 p.amount, .int .i64 p.buy, .int .i64 p.get, .slice l.parts.A l.parts.n l.parts.c, .slice l.tiers.A l.tiers.n l.tiers.c]] w fun e w' => e = .returned (.bool (inR p.amount 1 1000000000)) ∧ Below w.heap.size w w' := by
  have HW := Lib.hid (fun W => within64_any p.amount 1 1000000000 W)
  have HB : Hid (∀ o, Below w.heap.size w (w.alloc o)) := Lib.hid fun o => (Below.refl _ _).alloc (Nat.le_refl _) _
  obtain ⟨b, hb⟩ : ∃ b, inR p.amount 1 1000000000 = b := ⟨_, rfl⟩
  simp only [hb] at HW ⊢
  clear hb
  go_enter Try.func42, Try.ntmps42
  go_wp2_with fail
  refine (HW.out _).mono ?_
  rintro e w1 ⟨rfl, rfl⟩
  go_wp2
  go_ret
  exact ⟨rfl, HB.out _⟩
def takesB (t : Tir) : Bool := inR t.rate 0 10000 && inR t.amount 0 10000000000000 && (decide (0 < t.rate) || decide (0 < t.amount))
theorem takesB_def (t : Tir) : takesB t = (inR t.rate 0 10000 && inR t.amount 0 10000000000000 && (decide (0 < t.rate) || decide (0 < t.amount))) := rfl
set_option maxHeartbeats 1000000 in
theorem takes_any (t : Tir) (w : World) : Calls Try.prog 60 #[.agg #[.int .i64 t.least, .int .i64 t.rate, .int .i64 t.amount]] w fun e w' => e = .returned (.bool (takesB t)) ∧ Below w.heap.size w w' := by
  have HR := Lib.hid (fun W => within64_any t.rate 0 10000 W)
  have HA := Lib.hid (fun W => within64_any t.amount 0 10000000000000 W)
  have HB : Hid (∀ o, Below w.heap.size w (w.alloc o)) := Lib.hid fun o => (Below.refl _ _).alloc (Nat.le_refl _) _
  have HD := Lib.hid (takesB_def t)
  cases b1 : inR t.rate 0 10000 with
  | false =>
    simp only [b1] at HR
    have HG : Hid (takesB t = false) := Lib.hid (by rw [HD.out, b1]; rfl)
    clear b1
    go_enter Try.func60, Try.ntmps60
    go_wp2_with fail
    refine (HR.out _).mono ?_
    rintro e w1 ⟨rfl, rfl⟩
    go_wp2
    go_ret
    exact ⟨by rw [HG.out]; rfl, HB.out _⟩
  | true =>
    simp only [b1] at HR
    cases b2 : inR t.amount 0 10000000000000 with
    | false =>
      simp only [b2] at HA
      have HG : Hid (takesB t = false) := Lib.hid (by rw [HD.out, b1, b2]; rfl)
      clear b1 b2
      go_enter Try.func60, Try.ntmps60
      go_wp2_with fail
      refine (HR.out _).mono ?_
      rintro e w1 ⟨rfl, rfl⟩
      go_wp2_with fail
      refine (HA.out _).mono ?_
      rintro e w1 ⟨rfl, rfl⟩
      go_wp2
      go_ret
      exact ⟨by rw [HG.out]; rfl, HB.out _⟩
    | true =>
      simp only [b2] at HA
      by_cases h1 : 0 < t.rate
      · have HG : Hid (takesB t = true) := Lib.hid (by rw [HD.out, b1, b2, decide_eq_true h1]; rfl)
        clear b1 b2
        go_enter Try.func60, Try.ntmps60
        go_wp2_with fail
        refine (HR.out _).mono ?_
        rintro e w1 ⟨rfl, rfl⟩
        go_wp2_with fail
        refine (HA.out _).mono ?_
        rintro e w1 ⟨rfl, rfl⟩
        go_wp2
        go_ret
        exact ⟨by rw [HG.out]; rfl, HB.out _⟩
      · have HG : Hid (takesB t = decide (0 < t.amount)) := Lib.hid (by rw [HD.out, b1, b2, decide_eq_false h1]; rfl)
        clear b1 b2
        go_enter Try.func60, Try.ntmps60
        go_wp2_with fail
        refine (HR.out _).mono ?_
        rintro e w1 ⟨rfl, rfl⟩
        go_wp2_with fail
        refine (HA.out _).mono ?_
        rintro e w1 ⟨rfl, rfl⟩
        go_wp2
        go_ret
        refine ⟨?_, HB.out _⟩
        rw [HG.out]
        show Ending.returned (.bool (decide (0 < t.rate) || decide (0 < t.amount))) = _
        rw [decide_eq_false (by omega : ¬ 0 < t.rate)]; rfl
def rowsB (p : Prm) : Bool := inR p.buy 1 100 && inR p.get 1 100 && inR p.rate 1 10000
theorem rowsB_def (p : Prm) : rowsB p = (inR p.buy 1 100 && inR p.get 1 100 && inR p.rate 1 10000) := rfl
set_option maxHeartbeats 2000000 in
theorem rows_any (p : Prm) (l : Prm.Lay) (w : World) : Calls Try.prog 43 #[.agg #[.string p.id, .int .i64 p.kind, .int .i64 p.priority, .string p.group, .string p.code, .bool p.closes, .slice l.scope.skus.A l.scope.skus.n l.scope.skus.c, .slice l.scope.cats.A l.scope.cats.n l.scope.cats.c, .int .i64 p.least, .int .i64 p.rate, .int .i64 p.amount, .int .i64 p.buy, .int .i64 p.get, .slice l.parts.A l.parts.n l.parts.c, .slice l.tiers.A l.tiers.n l.tiers.c]] w fun e w' => e = .returned (.bool (rowsB p)) ∧ Below w.heap.size w w' := by
  have H1 := Lib.hid (fun W => within_any p.buy 1 100 W)
  have H2 := Lib.hid (fun W => within_any p.get 1 100 W)
  have H3 := Lib.hid (fun W => rate_any p l W)
  obtain ⟨w1, hw1⟩ : ∃ w1, w.alloc (.cells #[.string p.id, .int .i64 p.kind, .int .i64 p.priority, .string p.group, .string p.code, .bool p.closes, .slice l.scope.skus.A l.scope.skus.n l.scope.skus.c, .slice l.scope.cats.A l.scope.cats.n l.scope.cats.c, .int .i64 p.least, .int .i64 p.rate, .int .i64 p.amount, .int .i64 p.buy, .int .i64 p.get, .slice l.parts.A l.parts.n l.parts.c, .slice l.tiers.A l.tiers.n l.tiers.c] 82) = w1 := ⟨_, rfl⟩
  have hx : Qu.Blk w1 w.heap.size 82 #[.string p.id, .int .i64 p.kind, .int .i64 p.priority, .string p.group, .string p.code, .bool p.closes, .slice l.scope.skus.A l.scope.skus.n l.scope.skus.c, .slice l.scope.cats.A l.scope.cats.n l.scope.cats.c, .int .i64 p.least, .int .i64 p.rate, .int .i64 p.amount, .int .i64 p.buy, .int .i64 p.get, .slice l.parts.A l.parts.n l.parts.c, .slice l.tiers.A l.tiers.n l.tiers.c] := by rw [← hw1]; exact Qu.Blk.new w _ _
  have HB : Hid (Below w.heap.size w w1) := Lib.hid (by rw [← hw1]; exact (Below.refl _ _).alloc (Nat.le_refl _) _)
  have x0 := hx.cell 0
  have x1 := hx.cell 1
  have x2 := hx.cell 2
  have x3 := hx.cell 3
  have x4 := hx.cell 4
  have x5 := hx.cell 5
  have x6 := hx.cell 6
  have x7 := hx.cell 7
  have x8 := hx.cell 8
  have x9 := hx.cell 9
  have x10 := hx.cell 10
  have x11 := hx.cell 11
  have x12 := hx.cell 12
  have x13 := hx.cell 13
  have x14 := hx.cell 14
  have HD := Lib.hid (rowsB_def p)
  clear hx
  cases b1 : inR p.buy 1 100 with
  | false =>
    simp only [b1] at H1
    have HG : Hid (rowsB p = false) := Lib.hid (by rw [HD.out, b1]; rfl)
    clear b1
    go_enter Try.func43, Try.ntmps43
    go_wp2_with fail
    refine (H1.out _).mono ?_
    rintro e w2 ⟨rfl, rfl⟩
    go_wp2
    go_ret
    exact ⟨by rw [HG.out]; rfl, HB.out⟩
  | true =>
    simp only [b1] at H1
    cases b2 : inR p.get 1 100 with
    | false =>
      simp only [b2] at H2
      have HG : Hid (rowsB p = false) := Lib.hid (by rw [HD.out, b1, b2]; rfl)
      clear b1 b2
      go_enter Try.func43, Try.ntmps43
      go_wp2_with fail
      refine (H1.out _).mono ?_
      rintro e w2 ⟨rfl, rfl⟩
      go_wp2_with fail
      refine (H2.out _).mono ?_
      rintro e w2 ⟨rfl, rfl⟩
      go_wp2
      go_ret
      exact ⟨by rw [HG.out]; rfl, HB.out⟩
    | true =>
      simp only [b2] at H2
      have HG : Hid (rowsB p = inR p.rate 1 10000) := Lib.hid (by rw [HD.out, b1, b2]; rfl)
      obtain ⟨b, hb⟩ : ∃ b, inR p.rate 1 10000 = b := ⟨_, rfl⟩
      simp only [hb] at H3 HG
      clear b1 b2 hb
      go_enter Try.func43, Try.ntmps43
      go_wp2_with fail
      refine (H1.out _).mono ?_
      rintro e w2 ⟨rfl, rfl⟩
      go_wp2_with fail
      refine (H2.out _).mono ?_
      rintro e w2 ⟨rfl, rfl⟩
      go_wp2_with fail
      refine (H3.out _).mono ?_
      rintro e w3 ⟨rfl, hb3⟩
      have HB3 := Lib.hid (HB.out.trans (hb3.mono HB.out.size))
      clear hb3
      go_wp2
      go_ret
      exact ⟨by rw [HG.out]; rfl, HB3.out⟩
end Go.Proofs.Ytacmoanhbkipfaa.Pm

end

section
set_option maxRecDepth 100000
set_option linter.unusedVariables false
namespace Go.Proofs.Ytacmoanhbkipfaa.Sc
open Go.ChangeShapes Go.WideShapes Go.ChangeAt Go.RowKit
open It (Itm kItem row_item)
open Ap (Scp kScp row_Scp)
open Kd (Row Fit Lst Sl kStr kInt kList row_str Deep But Own)
theorem leq_str (a b : ByteArray) (W : World) : (binOp .leq 9 (.string a) (.string b)).run Try.prog W = .ok (.bool (!Sr.lt b a)) W := by
  have e : binOp .leq 9 (.string a) (.string b) = pure (.bool (Op.bytesLess a.toList b.toList || a.toList == b.toList)) := by simp [binOp, Op.stringOp]
  rw [e, Sr.le_iff]
  rfl
def Small (l : Scp.Lay) : Prop := l.skus.n ≤ 9223372036854775807 ∧ l.cats.n ≤ 9223372036854775807
end Go.Proofs.Ytacmoanhbkipfaa.Sc

end

section
set_option maxRecDepth 100000
set_option linter.unusedVariables false
namespace Go.Proofs.Ytacmoanhbkipfaa.Pr
open Go.ChangeShapes Go.WideShapes Go.ChangeAt Go.RowKit
open Ap (Scp Prt Tir Prm kPrt kTir kPrm row_Prt row_Tir)
open Kd (Row Fit Lst Sl kStr kInt kList row_str)
def PartsSmall (l : List Prt) : Prop := ∀ (k : Nat) (p : Prt), l[k]? = some p → p.scope.skus.length ≤ 9223372036854775807 ∧ p.scope.cats.length ≤ 9223372036854775807
end Go.Proofs.Ytacmoanhbkipfaa.Pr

end

section
set_option maxRecDepth 100000
set_option linter.unusedVariables false
namespace Go.Proofs.Ytacmoanhbkipfaa.Sc
open Go.ChangeShapes Go.WideShapes Go.ChangeAt Go.RowKit
open It (Itm kItem row_item)
open Ap (Scp kScp row_Scp)
open Kd (Row Fit Lst Sl kStr kInt kList row_str Deep But Own)
theorem wrong_any (s : ByteArray) (w : World) (hs : s.size ≤ maxLen) : Calls Try.prog 84 #[.string s] w fun e w' => e = .returned (.bool (!Sr.name s)) ∧ w' = w := by
  have HN := Lib.hid (Gd.name_any s w hs)
  obtain ⟨b, hb⟩ : ∃ b, Sr.name s = b := ⟨_, rfl⟩
  rw [hb] at HN ⊢
  clear hb hs
  go_enter Try.func84, Try.ntmps84
  go_wp2_with fail
  refine HN.out.mono ?_
  rintro e w1 ⟨rfl, rfl⟩
  go_wp2
  go_ret
  exact ⟨rfl, rfl⟩
theorem badFunc_any (A : Option Addr) (n c : Nat) (l : List ByteArray) (F : Nat → Prop) (w : World) (h : Row kStr w F A n l) (hn : n ≤ 9223372036854775807) :
    Calls Try.prog 88 #[.slice A n c, .func (.func 84) #[] #[]] w fun e w' => (∃ r : Int, e = .returned (.int .i64 r) ∧ ((0 ≤ r ∧ ∃ (i : Nat) (x : ByteArray), l[i]? = some x ∧ Sr.name x = false) ∨ (r = -1 ∧ ∀ (i : Nat) (x : ByteArray), l[i]? = some x → Sr.name x = true))) ∧ w' = w := by
  have hlen := h.len
  have HH := Lib.hid (And.intro h hlen)
  clear h hlen
  go_enter Try.func88, Try.ntmps88
  go_wp2
  go_loopw [8] (fun s8 wr => ∃ k : Nat, s8 = .int .i64 k ∧ k ≤ n ∧ wr = w ∧ ∀ (i : Nat) (x : ByteArray), i < k → l[i]? = some x → Sr.name x = true) (fun s8 _ => n - (intOf s8).toNat)
  case atStart => exact ⟨0, rfl, by omega, rfl, fun i x hi => by omega⟩
  case round =>
    obtain ⟨k, rfl, hk, rfl, hE⟩ := hrel
    have HE := Lib.hid hE
    clear hE
    by_cases hlt : k < n
    · obtain ⟨x, hx⟩ := HH.out.1.get hlt
      obtain ⟨g, o, rfl, _, _, hok, c0⟩ := row_str HH.out.1 hx
      have k1 : (k : Int) < (n : Int) := by omega
      have k0 : (0 : Int) ≤ (k : Int) := by omega
      have HC := Lib.hid (wrong_any x wr hok)
      have HX := Lib.hid hx
      clear hx hok
      cases hB : Sr.name x with
      | true =>
        rw [hB] at HC
        have HB := Lib.hid hB
        clear hB
        go_wp2_with fail
        refine HC.out.mono ?_
        rintro e w1 ⟨rfl, rfl⟩
        go_wp2
        go_roundw
        case rel => exact ⟨k + 1, by go_num, by omega, by trivial, fun i y hi hy => by
          rcases Nat.lt_or_ge i k with h1 | h1
          · exact HE.out i y h1 hy
          · obtain rfl : i = k := by omega
            rw [HX.out] at hy
            injection hy with hy
            subst hy
            exact HB.out⟩
        case measure => simp [intOf]; omega
      | false =>
        rw [hB] at HC
        have HB := Lib.hid hB
        clear hB
        go_wp2_with fail
        refine HC.out.mono ?_
        rintro e w1 ⟨rfl, rfl⟩
        go_wp2
        go_ret
        exact ⟨⟨k, rfl, .inl ⟨by omega, k, x, HX.out, HB.out⟩⟩, rfl⟩
    · have k1 : ¬ (k : Int) < (n : Int) := by omega
      go_wp2
      go_ret
      exact ⟨⟨-1, rfl, .inr ⟨rfl, fun i x hx => HE.out i x (by
        have := (List.getElem?_eq_some_iff.1 hx).1
        have := HH.out.2
        omega) hx⟩⟩, rfl⟩
theorem anyBad_any (A : Option Addr) (n c : Nat) (l : List ByteArray) (F : Nat → Prop) (w : World) (h : Row kStr w F A n l) (hn : n ≤ 9223372036854775807) :
    Calls Try.prog 83 #[.slice A n c, .func (.func 84) #[] #[]] w fun e w' => (∃ b : Bool, e = .returned (.bool b) ∧ (b = false ↔ ∀ (i : Nat) (x : ByteArray), l[i]? = some x → Sr.name x = true)) ∧ w' = w := by
  have HC := Lib.hid (badFunc_any A n c l F w h hn)
  clear h
  go_enter Try.func83, Try.ntmps83
  go_wp2_with fail
  refine HC.out.mono ?_
  rintro e w1 ⟨⟨r, rfl, hr⟩, rfl⟩
  rcases hr with ⟨h0, i, x, hx, hi⟩ | ⟨rfl, hA⟩
  · have HX := Lib.hid (And.intro hx hi)
    clear hx hi
    go_wp2
    go_ret
    exact ⟨⟨true, rfl, by simp; exact ⟨i, x, HX.out.1, HX.out.2⟩⟩, rfl⟩
  · have HX := Lib.hid hA
    clear hA
    go_wp2
    go_ret
    exact ⟨⟨false, rfl, by simp; exact HX.out⟩, rfl⟩
noncomputable def riseB (l : List ByteArray) : Bool := @decide (Rise l) (Classical.propDecidable _)
theorem riseB_yes {l : List ByteArray} (h : Rise l) : riseB l = true := by unfold riseB; exact @decide_eq_true _ (Classical.propDecidable _) h
theorem riseB_no {l : List ByteArray} (h : ¬ Rise l) : riseB l = false := by unfold riseB; exact @decide_eq_false _ (Classical.propDecidable _) h
theorem riseB_iff {l : List ByteArray} : riseB l = true ↔ Rise l := by
  constructor
  · intro h
    by_cases k : Rise l
    · exact k
    · rw [riseB_no k] at h; cases h
  · exact riseB_yes
set_option maxHeartbeats 1000000 in
theorem rise_any (A : Option Addr) (n c : Nat) (l : List ByteArray) (F : Nat → Prop) (w : World) (h : Row kStr w F A n l) (hn : n ≤ 9223372036854775807) :
    Calls Try.prog 82 #[.slice A n c] w fun e w' => e = .returned (.bool (riseB l)) ∧ Hl.Drawn w w' := by
  have hlen := h.len
  have HH := Lib.hid h
  have HL := Lib.hid hlen
  clear h hlen
  go_enter Try.func82, Try.ntmps82
  go_wp2
  go_loopw [3] (fun s3 wr => ∃ k : Nat, s3 = .int .i64 k ∧ 1 ≤ k ∧ (k ≤ n ∨ (n = 0 ∧ k = 1)) ∧ Hl.Drawn w wr ∧ ∀ (i : Nat) (a b : ByteArray), i + 1 < k → l[i]? = some a → l[i + 1]? = some b → Sr.lt a b = true) (fun s3 _ => n - (intOf s3).toNat)
  case atStart => exact ⟨1, rfl, by omega, by omega, ⟨0, rfl⟩, fun i a b hi => by omega⟩
  case round =>
    obtain ⟨k, rfl, hk1, hk2, hD, hR⟩ := hrel
    have HR := Lib.hid hR
    clear hR
    by_cases hlt : k < n
    · obtain ⟨x, hx⟩ := HH.out.get hlt
      obtain ⟨y, hy⟩ := HH.out.get (k := k - 1) (by omega)
      obtain ⟨g, o, rfl, _, _, _, a1⟩ := row_str HH.out hx
      obtain ⟨g', o', hA, _, _, _, b1⟩ := row_str HH.out hy
      injection hA with hA
      injection hA with hA1 hA2
      subst hA1 hA2
      have c1 : wr.cell? ⟨g, o + k, none⟩ = some (.string x) := by obtain ⟨d, rfl⟩ := hD; exact a1
      have c2 : wr.cell? ⟨g, o + (k - 1), none⟩ = some (.string y) := by obtain ⟨d, rfl⟩ := hD; exact b1
      have HD := Lib.hid hD
      have HX := Lib.hid (And.intro hx hy)
      have k0 : (0 : Int) ≤ (k : Int) - 1 := by omega
      have k1 : (k : Int) < (n : Int) := by omega
      have k2 : (k : Int) - 1 < (n : Int) := by omega
      have k3 : ((k : Int) - 1).toNat = k - 1 := by omega
      have hle := fun W => leq_str x y W
      clear a1 b1 hD hx hy hlt
      cases hB : Sr.lt y x with
      | true =>
        simp only [hB] at hle
        have HB := Lib.hid hB
        clear hB
        go_wp2_with fail
        go_quiet (fail)
        go_wp2
        go_roundw
        case rel => exact ⟨k + 1, by go_num, by omega, by omega, HD.out.more _, fun i a b hi ha hb => by
          rcases Nat.lt_or_ge (i + 1) k with h1 | h1
          · exact HR.out i a b h1 ha hb
          · obtain rfl : k = i + 1 := by omega
            rw [HX.out.1] at hb
            rw [show i + 1 - 1 = i by omega] at HX
            rw [HX.out.2] at ha
            injection ha with ha
            injection hb with hb
            subst ha hb
            exact HB.out⟩
        case measure => simp [intOf]; omega
      | false =>
        simp only [hB] at hle
        have HO : Hid (riseB l = false) := Lib.hid (riseB_no fun hr => by
          have h1 := hr (k - 1) y x HX.out.2 (by rw [show k - 1 + 1 = k by omega]; exact HX.out.1)
          rw [hB] at h1
          cases h1)
        clear hB
        go_wp2_with fail
        go_quiet (fail)
        go_wp2
        go_ret
        exact ⟨by rw [HO.out]; rfl, HD.out.more _⟩
    · have k1 : ¬ (k : Int) < (n : Int) := by omega
      have HO : Hid (riseB l = true) := Lib.hid (riseB_yes fun i a b ha hb => by
        have h1 := (List.getElem?_eq_some_iff.1 hb).1
        rw [HL.out] at h1
        exact HR.out i a b (by omega) ha hb)
      have HD := Lib.hid hD
      clear hD
      go_wp2
      go_ret
      exact ⟨by rw [HO.out]; rfl, HD.out⟩
theorem names_told {l : List ByteArray} {m : Int} (h5 : (l.length : Int) ≤ m) (hr : riseB l = true) {b : Bool} (hb : b = false ↔ ∀ (i : Nat) (x : ByteArray), l[i]? = some x → Sr.name x = true) : namesB l m = !b := by
  cases b with
  | false => exact namesB_yes ⟨h5, hb.1 rfl, riseB_iff.1 hr⟩
  | true => exact namesB_no fun h => by cases hb.2 h.each
set_option maxHeartbeats 1000000 in
theorem right_any (A : Option Addr) (n c : Nat) (l : List ByteArray) (F : Nat → Prop) (w : World) (h : Row kStr w F A n l) (hn : n ≤ 9223372036854775807) :
    Calls Try.prog 70 #[.slice A n c] w fun e w' => e = .returned (.bool (namesB l 20)) ∧ Hl.Drawn w w' := by
  have HL := Lib.hid h.len
  by_cases h5 : n ≤ 20
  · have d5 : (n : Int) ≤ 20 := by omega
    have HR := Lib.hid (rise_any A n c l F w h hn)
    have HC := Lib.hid (fun w1 (hD : Hl.Drawn w w1) => anyBad_any A n c l F w1 (by obtain ⟨d, rfl⟩ := hD; exact h.drewN d) hn)
    clear h
    cases hB : riseB l with
    | true =>
      rw [hB] at HR
      have HB := Lib.hid hB
      clear hB
      go_enter Try.func70, Try.ntmps70
      go_wp2_with fail
      refine HR.out.mono ?_
      rintro e w1 ⟨rfl, hD⟩
      have HD := Lib.hid hD
      clear hD
      go_wp2_with fail
      refine (HC.out _ HD.out).mono ?_
      rintro e w2 ⟨⟨b, rfl, hb⟩, rfl⟩
      have HG : Hid (namesB l 20 = !b) := Lib.hid (names_told (by rw [HL.out]; omega) HB.out hb)
      clear hb
      go_wp2
      go_ret
      exact ⟨by rw [HG.out]; rfl, HD.out⟩
    | false =>
      rw [hB] at HR
      have HG : Hid (namesB l 20 = false) := Lib.hid (namesB_no fun hg => by
        rw [riseB_yes hg.rise] at hB
        cases hB)
      clear hB
      go_enter Try.func70, Try.ntmps70
      go_wp2_with fail
      refine HR.out.mono ?_
      rintro e w1 ⟨rfl, hD⟩
      have HD := Lib.hid hD
      clear hD
      go_wp2
      go_ret
      exact ⟨by rw [HG.out]; rfl, HD.out⟩
  · have d5 : ¬ (n : Int) ≤ 20 := by omega
    have HG : Hid (namesB l 20 = false) := Lib.hid (namesB_no fun hg => by have := hg.few; rw [HL.out] at this; omega)
    clear h
    go_enter Try.func70, Try.ntmps70
    go_wp2
    go_ret
    exact ⟨by rw [HG.out]; rfl, ⟨0, rfl⟩⟩
theorem Right_any (s : Scp) (l : Scp.Lay) (w : World) (h : Scp.Holds w (· < w.heap.size) s l) (hl : Small l) :
    Calls Try.prog 59 #[.agg #[.slice l.skus.A l.skus.n l.skus.c, .slice l.cats.A l.cats.n l.cats.c]] w fun e w' => e = .returned (.bool (scopeB s)) ∧ Below w.heap.size w w' := by
  obtain ⟨⟨A1, n1, c1⟩, ⟨A2, n2, c2⟩⟩ := l
  have hd : scopeB s = (namesB s.skus 20 && namesB s.cats 20) := rfl
  have HA : Hid (∀ W, Below w.heap.size w W → Calls Try.prog 70 #[.slice A1 n1 c1] W fun e w' => e = .returned (.bool (namesB s.skus 20)) ∧ Hl.Drawn W w') := Lib.hid fun W hW =>
    right_any A1 n1 c1 s.skus _ W (h.skus.row.below hW (Nat.le_refl _)) hl.1
  have HC : Hid (∀ W, Below w.heap.size w W → Calls Try.prog 70 #[.slice A2 n2 c2] W fun e w' => e = .returned (.bool (namesB s.cats 20)) ∧ Hl.Drawn W w') := Lib.hid fun W hW =>
    right_any A2 n2 c2 s.cats _ W (h.cats.row.below hW (Nat.le_refl _)) hl.2
  obtain ⟨w1, hw1⟩ : ∃ w1, w.alloc (.cells #[.slice A1 n1 c1, .slice A2 n2 c2] 24) = w1 := ⟨_, rfl⟩
  have HB1 : Hid (Below w.heap.size w w1) := Lib.hid (by rw [← hw1]; exact (Below.refl _ _).alloc (Nat.le_refl _) _)
  have hx : Qu.Blk w1 w.heap.size 24 #[.slice A1 n1 c1, .slice A2 n2 c2] := by rw [← hw1]; exact Qu.Blk.new w _ _
  have x0 := hx.cell 0
  have X1 := Lib.hid (hx.cell 1)
  clear h hl hx
  cases b1 : namesB s.skus 20 with
  | false =>
    simp only [b1] at HA
    have HD : Hid (scopeB s = false) := Lib.hid (by rw [hd, b1]; rfl)
    clear hd b1 X1
    go_enter Try.func59, Try.ntmps59
    go_wp2_with fail
    refine (HA.out _ HB1.out).mono ?_
    rintro e w2 ⟨rfl, hD⟩
    have HB := Lib.hid (HB1.out.trans (hD.below _))
    clear hD
    go_wp2
    go_ret
    exact ⟨by rw [HD.out]; rfl, HB.out⟩
  | true =>
    simp only [b1] at HA
    have HD : Hid (scopeB s = namesB s.cats 20) := Lib.hid (by rw [hd, b1]; rfl)
    clear hd b1
    go_enter Try.func59, Try.ntmps59
    go_wp2_with fail
    refine (HA.out _ HB1.out).mono ?_
    rintro e w2 ⟨rfl, hD⟩
    have x1 : w2.cell? ⟨w.heap.size, 1, none⟩ = some (.slice A2 n2 c2) := by obtain ⟨d, rfl⟩ := hD; exact X1.out
    have HB := Lib.hid (HB1.out.trans (hD.below _))
    clear hD
    go_wp2_with fail
    refine (HC.out _ HB.out).mono ?_
    rintro e w3 ⟨rfl, hD⟩
    have HB3 := Lib.hid (HB.out.trans (hD.below _))
    clear hD
    obtain ⟨b, hb⟩ : ∃ b, namesB s.cats 20 = b := ⟨_, rfl⟩
    simp only [hb] at HD ⊢
    clear hb
    go_wp2
    go_ret
    exact ⟨by rw [HD.out]; rfl, HB3.out⟩
end Go.Proofs.Ytacmoanhbkipfaa.Sc

end
