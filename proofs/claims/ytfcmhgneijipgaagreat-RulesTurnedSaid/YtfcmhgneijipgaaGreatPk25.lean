/- The library's Equal over items, texts, numbers, rates, tiers. (made by wip/gen-equal.py) -/
import Derived.Deep.RegionHeld3
import Derived.Laws.StructEq
import Derived.Test.YtfcmhgneijipgaaGreatPk19
import Derived.Test.YtfcmhgneijipgaaGreatPk21
import Derived.Test.YtfcmhgneijipgaaGreatPk22
import Derived.Test.YtfcmhgneijipgaaGreatPk23
import Derived.Test.YtfcmhgneijipgaaGreatPk24

set_option maxRecDepth 100000
set_option linter.unusedVariables false
namespace Go.Proofs.YtfcmhgneijipgaaGreat.Ru
open Go.ChangeShapes Go.WideShapes Go.ChangeAt Go.RowKit
open Ap (CtR Tir kCtR kTir row_CtR row_Tir)
open It (Itm kItem row_item)
open Kd (Row Lst Sl eqL Two rows_get eqL_no eqL_yes eqL_len Agree kInt kStr row_int row_str)
open Hp (eqI)
theorem neq_Itm (x y : Itm) (W : World) : (binOp .neq 44 (.agg #[.string x.sku, .string x.cat, .int .i64 x.price, .bool x.fin]) (.agg #[.string y.sku, .string y.cat, .int .i64 y.price, .bool y.fin])).run Tryz.prog W = .ok (.bool (!It.sameB x y)) W := by
  unfold It.sameB
  try unfold Sr.same
  go_simp
  by_cases e0 : x.sku.toList = y.sku.toList <;>
  by_cases e1 : x.cat.toList = y.cat.toList <;>
  by_cases e2 : x.price = y.price <;>
  by_cases e3 : x.fin = y.fin <;>
  simp [*]
theorem neq_CtR (x y : CtR) (W : World) : (binOp .neq 53 (.agg #[.string x.cat, .int .i64 x.rate]) (.agg #[.string y.cat, .int .i64 y.rate])).run Tryz.prog W = .ok (.bool (!Ap.CtR.sameB x y)) W := by
  unfold Ap.CtR.sameB
  try unfold Sr.same
  go_simp
  by_cases e0 : x.cat.toList = y.cat.toList <;>
  by_cases e1 : x.rate = y.rate <;>
  simp [*]
theorem neq_Tir (x y : Tir) (W : World) : (binOp .neq 115 (.agg #[.int .i64 x.least, .int .i64 x.rate, .int .i64 x.amount]) (.agg #[.int .i64 y.least, .int .i64 y.rate, .int .i64 y.amount])).run Tryz.prog W = .ok (.bool (!Ap.Tir.sameB x y)) W := by
  unfold Ap.Tir.sameB
  try unfold Sr.same
  go_simp
  by_cases e0 : x.least = y.least <;>
  by_cases e1 : x.rate = y.rate <;>
  by_cases e2 : x.amount = y.amount <;>
  simp [*]
theorem neq_Int (x y : Int) (W : World) : (binOp .neq 3 (.int .i64 x) (.int .i64 y)).run Tryz.prog W = .ok (.bool (!eqI x y)) W := by
  unfold eqI
  go_simp
  rfl
theorem neq_str (x y : ByteArray) (W : World) : (binOp .neq 9 (.string x) (.string y)).run Tryz.prog W = .ok (.bool (!Sr.same x y)) W := by
  unfold Sr.same
  go_simp
  try rfl
set_option maxHeartbeats 2000000 in
theorem equalI_any (A C : Option Addr) (n m ca cc : Nat) (xs ys : List Itm) (F : Nat → Prop) (w : World) (ha : Row kItem w F A n xs) (hc : Row kItem w F C m ys) (hF : ∀ b, F b → b < w.heap.size) (hn : n ≤ 9223372036854775807) :
    Calls Tryz.prog 47 #[.slice A n ca, .slice C m cc] w fun e w' => e = .returned (.bool (eqL It.sameB xs ys)) ∧ Below w.heap.size w w' := by
  have hl := ha.len
  have hl2 := hc.len
  have HL := Lib.hid (And.intro hl hl2)
  have HF := Lib.hid hF
  by_cases hnm : n = m
  · subst hnm
    have b0 : ((n : Int) != (n : Int)) = false := by simp
    have HT0 := Lib.hid (Two.mk ha hc (Below.refl w.heap.size w))
    clear ha hc hl hl2 hF
    go_enter Tryz.func47, Tryz.ntmps47
    go_wp2
    go_loopw [13] (fun s wr => ∃ k : Nat, s = .int .i64 k ∧ k ≤ n ∧ Hid (Two kItem w wr F A C n n xs ys) ∧ Hid (∀ (j : Nat) (x y : Itm), j < k → xs[j]? = some x → ys[j]? = some y → It.sameB x y = true)) (fun s _ => n - (intOf s).toNat)
    case atStart => exact ⟨0, rfl, by omega, HT0, Lib.hid fun j x y hj => by omega⟩
    case round =>
      clear HT0
      obtain ⟨k, rfl, hk, HT, HE⟩ := hrel
      by_cases hlt : k < n
      · obtain ⟨x, y, hx, hy⟩ := rows_get HT.out.a HT.out.c hlt
        obtain ⟨g, o, rfl, hg1, hg2, hx1, a0, a1, a2, a3⟩ := row_item HT.out.a hx
        obtain ⟨g', o', rfl, hg3, hg4, hy1, d0, d1, d2, d3⟩ := row_item HT.out.c hy
        have k0 : (0 : Int) ≤ (k : Int) := by omega
        have k1 : (k : Int) < (n : Int) := by omega
        have HXY := Lib.hid (And.intro hx hy)
        have hne := fun W => neq_Itm x y W
        have c0 : ∀ u, Below wr.heap.size wr u → u.cell? ⟨g, o + k * 4, none⟩ = some (.string x.sku) := fun u hu => (hu.cell (p := ⟨g, _, none⟩) hg2).trans a0
        have e0 : ∀ u, Below wr.heap.size wr u → u.cell? ⟨g', o' + k * 4, none⟩ = some (.string y.sku) := fun u hu => (hu.cell (p := ⟨g', _, none⟩) hg4).trans d0
        have c1 : ∀ u, Below wr.heap.size wr u → u.cell? ⟨g, o + k * 4 + 1, none⟩ = some (.string x.cat) := fun u hu => (hu.cell (p := ⟨g, _, none⟩) hg2).trans a1
        have e1 : ∀ u, Below wr.heap.size wr u → u.cell? ⟨g', o' + k * 4 + 1, none⟩ = some (.string y.cat) := fun u hu => (hu.cell (p := ⟨g', _, none⟩) hg4).trans d1
        have c2 : ∀ u, Below wr.heap.size wr u → u.cell? ⟨g, o + k * 4 + 2, none⟩ = some (.int .i64 x.price) := fun u hu => (hu.cell (p := ⟨g, _, none⟩) hg2).trans a2
        have e2 : ∀ u, Below wr.heap.size wr u → u.cell? ⟨g', o' + k * 4 + 2, none⟩ = some (.int .i64 y.price) := fun u hu => (hu.cell (p := ⟨g', _, none⟩) hg4).trans d2
        have c3 : ∀ u, Below wr.heap.size wr u → u.cell? ⟨g, o + k * 4 + 3, none⟩ = some (.bool x.fin) := fun u hu => (hu.cell (p := ⟨g, _, none⟩) hg2).trans a3
        have e3 : ∀ u, Below wr.heap.size wr u → u.cell? ⟨g', o' + k * 4 + 3, none⟩ = some (.bool y.fin) := fun u hu => (hu.cell (p := ⟨g', _, none⟩) hg4).trans d3
        clear a0 d0 a1 d1 a2 d2 a3 d3 hx hy hg1 hg2 hg3 hg4 hx1 hy1
        cases hB : It.sameB x y with
        | true =>
          rw [hB] at hne
          have HB := Lib.hid hB
          clear hB
          go_wp2_with fail
          go_region_held3 (fun u => Below wr.heap.size wr u)
            (first
              | assumption
              | exact (Below.refl _ _).drew
              | exact Below.refl _ _)
            (first
              | (fail))
          have HT2 := Lib.hid (HT.out.on HF.out (by assumption))
          go_wp2
          go_roundw
          case rel => exact ⟨k + 1, by go_num, by omega, HT2, Lib.hid fun j x' y' hj hx' hy' => by
            rcases Nat.lt_or_ge j k with h | h
            · exact HE.out j x' y' h hx' hy'
            · obtain rfl : j = k := by omega
              rw [HXY.out.1] at hx'
              rw [HXY.out.2] at hy'
              injection hx' with hx'
              injection hy' with hy'
              subst hx' hy'
              exact HB.out⟩
          case measure => simp [intOf]; omega
        | false =>
          rw [hB] at hne
          have HG := Lib.hid (eqL_no HXY.out.1 HXY.out.2 hB)
          clear hB
          go_wp2_with fail
          go_region_held3 (fun u => Below wr.heap.size wr u)
            (first
              | assumption
              | exact (Below.refl _ _).drew
              | exact Below.refl _ _)
            (first
              | (fail))
          have HT2 := Lib.hid (HT.out.on HF.out (by assumption))
          go_wp2
          go_ret
          exact ⟨by rw [HG.out]; rfl, HT2.out.below⟩
      · have k1 : ¬ (k : Int) < (n : Int) := by omega
        have HG := Lib.hid (eqL_yes (eq := It.sameB) (HL.out.1.trans HL.out.2.symm) fun j x y hx hy => HE.out j x y (by
          have := (List.getElem?_eq_some_iff.1 hx).1
          rw [HL.out.1] at this
          omega) hx hy)
        go_wp2
        go_ret
        exact ⟨by rw [HG.out]; rfl, HT.out.below⟩
  · have b0 : ((n : Int) != (m : Int)) = true := by rw [bne_iff_ne]; omega
    have HG := Lib.hid (eqL_len (eq := It.sameB) (xs := xs) (ys := ys) (by omega))
    clear ha hc hl hl2 hnm hF
    go_enter Tryz.func47, Tryz.ntmps47
    go_wp2
    go_ret
    exact ⟨by rw [HG.out]; rfl, Below.refl _ _⟩
set_option maxHeartbeats 2000000 in
theorem equalR_any (A C : Option Addr) (n m ca cc : Nat) (xs ys : List CtR) (F : Nat → Prop) (w : World) (ha : Row kCtR w F A n xs) (hc : Row kCtR w F C m ys) (hF : ∀ b, F b → b < w.heap.size) (hn : n ≤ 9223372036854775807) :
    Calls Tryz.prog 142 #[.slice A n ca, .slice C m cc] w fun e w' => e = .returned (.bool (eqL Ap.CtR.sameB xs ys)) ∧ Below w.heap.size w w' := by
  have hl := ha.len
  have hl2 := hc.len
  have HL := Lib.hid (And.intro hl hl2)
  have HF := Lib.hid hF
  by_cases hnm : n = m
  · subst hnm
    have b0 : ((n : Int) != (n : Int)) = false := by simp
    have HT0 := Lib.hid (Two.mk ha hc (Below.refl w.heap.size w))
    clear ha hc hl hl2 hF
    go_enter Tryz.func142, Tryz.ntmps142
    go_wp2
    go_loopw [13] (fun s wr => ∃ k : Nat, s = .int .i64 k ∧ k ≤ n ∧ Hid (Two kCtR w wr F A C n n xs ys) ∧ Hid (∀ (j : Nat) (x y : CtR), j < k → xs[j]? = some x → ys[j]? = some y → Ap.CtR.sameB x y = true)) (fun s _ => n - (intOf s).toNat)
    case atStart => exact ⟨0, rfl, by omega, HT0, Lib.hid fun j x y hj => by omega⟩
    case round =>
      clear HT0
      obtain ⟨k, rfl, hk, HT, HE⟩ := hrel
      by_cases hlt : k < n
      · obtain ⟨x, y, hx, hy⟩ := rows_get HT.out.a HT.out.c hlt
        obtain ⟨g, o, rfl, hg1, hg2, hx1, a0, a1⟩ := row_CtR HT.out.a hx
        obtain ⟨g', o', rfl, hg3, hg4, hy1, d0, d1⟩ := row_CtR HT.out.c hy
        have k0 : (0 : Int) ≤ (k : Int) := by omega
        have k1 : (k : Int) < (n : Int) := by omega
        have HXY := Lib.hid (And.intro hx hy)
        have hne := fun W => neq_CtR x y W
        have c0 : ∀ u, Below wr.heap.size wr u → u.cell? ⟨g, o + k * 2, none⟩ = some (.string x.cat) := fun u hu => (hu.cell (p := ⟨g, _, none⟩) hg2).trans a0
        have e0 : ∀ u, Below wr.heap.size wr u → u.cell? ⟨g', o' + k * 2, none⟩ = some (.string y.cat) := fun u hu => (hu.cell (p := ⟨g', _, none⟩) hg4).trans d0
        have c1 : ∀ u, Below wr.heap.size wr u → u.cell? ⟨g, o + k * 2 + 1, none⟩ = some (.int .i64 x.rate) := fun u hu => (hu.cell (p := ⟨g, _, none⟩) hg2).trans a1
        have e1 : ∀ u, Below wr.heap.size wr u → u.cell? ⟨g', o' + k * 2 + 1, none⟩ = some (.int .i64 y.rate) := fun u hu => (hu.cell (p := ⟨g', _, none⟩) hg4).trans d1
        clear a0 d0 a1 d1 hx hy hg1 hg2 hg3 hg4 hx1 hy1
        cases hB : Ap.CtR.sameB x y with
        | true =>
          rw [hB] at hne
          have HB := Lib.hid hB
          clear hB
          go_wp2_with fail
          go_region_held3 (fun u => Below wr.heap.size wr u)
            (first
              | assumption
              | exact (Below.refl _ _).drew
              | exact Below.refl _ _)
            (first
              | (fail))
          have HT2 := Lib.hid (HT.out.on HF.out (by assumption))
          go_wp2
          go_roundw
          case rel => exact ⟨k + 1, by go_num, by omega, HT2, Lib.hid fun j x' y' hj hx' hy' => by
            rcases Nat.lt_or_ge j k with h | h
            · exact HE.out j x' y' h hx' hy'
            · obtain rfl : j = k := by omega
              rw [HXY.out.1] at hx'
              rw [HXY.out.2] at hy'
              injection hx' with hx'
              injection hy' with hy'
              subst hx' hy'
              exact HB.out⟩
          case measure => simp [intOf]; omega
        | false =>
          rw [hB] at hne
          have HG := Lib.hid (eqL_no HXY.out.1 HXY.out.2 hB)
          clear hB
          go_wp2_with fail
          go_region_held3 (fun u => Below wr.heap.size wr u)
            (first
              | assumption
              | exact (Below.refl _ _).drew
              | exact Below.refl _ _)
            (first
              | (fail))
          have HT2 := Lib.hid (HT.out.on HF.out (by assumption))
          go_wp2
          go_ret
          exact ⟨by rw [HG.out]; rfl, HT2.out.below⟩
      · have k1 : ¬ (k : Int) < (n : Int) := by omega
        have HG := Lib.hid (eqL_yes (eq := Ap.CtR.sameB) (HL.out.1.trans HL.out.2.symm) fun j x y hx hy => HE.out j x y (by
          have := (List.getElem?_eq_some_iff.1 hx).1
          rw [HL.out.1] at this
          omega) hx hy)
        go_wp2
        go_ret
        exact ⟨by rw [HG.out]; rfl, HT.out.below⟩
  · have b0 : ((n : Int) != (m : Int)) = true := by rw [bne_iff_ne]; omega
    have HG := Lib.hid (eqL_len (eq := Ap.CtR.sameB) (xs := xs) (ys := ys) (by omega))
    clear ha hc hl hl2 hnm hF
    go_enter Tryz.func142, Tryz.ntmps142
    go_wp2
    go_ret
    exact ⟨by rw [HG.out]; rfl, Below.refl _ _⟩
set_option maxHeartbeats 2000000 in
theorem equalT_any (A C : Option Addr) (n m ca cc : Nat) (xs ys : List Tir) (F : Nat → Prop) (w : World) (ha : Row kTir w F A n xs) (hc : Row kTir w F C m ys) (hF : ∀ b, F b → b < w.heap.size) (hn : n ≤ 9223372036854775807) :
    Calls Tryz.prog 99 #[.slice A n ca, .slice C m cc] w fun e w' => e = .returned (.bool (eqL Ap.Tir.sameB xs ys)) ∧ Below w.heap.size w w' := by
  have hl := ha.len
  have hl2 := hc.len
  have HL := Lib.hid (And.intro hl hl2)
  have HF := Lib.hid hF
  by_cases hnm : n = m
  · subst hnm
    have b0 : ((n : Int) != (n : Int)) = false := by simp
    have HT0 := Lib.hid (Two.mk ha hc (Below.refl w.heap.size w))
    clear ha hc hl hl2 hF
    go_enter Tryz.func99, Tryz.ntmps99
    go_wp2
    go_loopw [13] (fun s wr => ∃ k : Nat, s = .int .i64 k ∧ k ≤ n ∧ Hid (Two kTir w wr F A C n n xs ys) ∧ Hid (∀ (j : Nat) (x y : Tir), j < k → xs[j]? = some x → ys[j]? = some y → Ap.Tir.sameB x y = true)) (fun s _ => n - (intOf s).toNat)
    case atStart => exact ⟨0, rfl, by omega, HT0, Lib.hid fun j x y hj => by omega⟩
    case round =>
      clear HT0
      obtain ⟨k, rfl, hk, HT, HE⟩ := hrel
      by_cases hlt : k < n
      · obtain ⟨x, y, hx, hy⟩ := rows_get HT.out.a HT.out.c hlt
        obtain ⟨g, o, rfl, hg1, hg2, hx1, a0, a1, a2⟩ := row_Tir HT.out.a hx
        obtain ⟨g', o', rfl, hg3, hg4, hy1, d0, d1, d2⟩ := row_Tir HT.out.c hy
        have k0 : (0 : Int) ≤ (k : Int) := by omega
        have k1 : (k : Int) < (n : Int) := by omega
        have HXY := Lib.hid (And.intro hx hy)
        have hne := fun W => neq_Tir x y W
        have c0 : ∀ u, Below wr.heap.size wr u → u.cell? ⟨g, o + k * 3, none⟩ = some (.int .i64 x.least) := fun u hu => (hu.cell (p := ⟨g, _, none⟩) hg2).trans a0
        have e0 : ∀ u, Below wr.heap.size wr u → u.cell? ⟨g', o' + k * 3, none⟩ = some (.int .i64 y.least) := fun u hu => (hu.cell (p := ⟨g', _, none⟩) hg4).trans d0
        have c1 : ∀ u, Below wr.heap.size wr u → u.cell? ⟨g, o + k * 3 + 1, none⟩ = some (.int .i64 x.rate) := fun u hu => (hu.cell (p := ⟨g, _, none⟩) hg2).trans a1
        have e1 : ∀ u, Below wr.heap.size wr u → u.cell? ⟨g', o' + k * 3 + 1, none⟩ = some (.int .i64 y.rate) := fun u hu => (hu.cell (p := ⟨g', _, none⟩) hg4).trans d1
        have c2 : ∀ u, Below wr.heap.size wr u → u.cell? ⟨g, o + k * 3 + 2, none⟩ = some (.int .i64 x.amount) := fun u hu => (hu.cell (p := ⟨g, _, none⟩) hg2).trans a2
        have e2 : ∀ u, Below wr.heap.size wr u → u.cell? ⟨g', o' + k * 3 + 2, none⟩ = some (.int .i64 y.amount) := fun u hu => (hu.cell (p := ⟨g', _, none⟩) hg4).trans d2
        clear a0 d0 a1 d1 a2 d2 hx hy hg1 hg2 hg3 hg4 hx1 hy1
        cases hB : Ap.Tir.sameB x y with
        | true =>
          rw [hB] at hne
          have HB := Lib.hid hB
          clear hB
          go_wp2_with fail
          go_region_held3 (fun u => Below wr.heap.size wr u)
            (first
              | assumption
              | exact (Below.refl _ _).drew
              | exact Below.refl _ _)
            (first
              | (fail))
          have HT2 := Lib.hid (HT.out.on HF.out (by assumption))
          go_wp2
          go_roundw
          case rel => exact ⟨k + 1, by go_num, by omega, HT2, Lib.hid fun j x' y' hj hx' hy' => by
            rcases Nat.lt_or_ge j k with h | h
            · exact HE.out j x' y' h hx' hy'
            · obtain rfl : j = k := by omega
              rw [HXY.out.1] at hx'
              rw [HXY.out.2] at hy'
              injection hx' with hx'
              injection hy' with hy'
              subst hx' hy'
              exact HB.out⟩
          case measure => simp [intOf]; omega
        | false =>
          rw [hB] at hne
          have HG := Lib.hid (eqL_no HXY.out.1 HXY.out.2 hB)
          clear hB
          go_wp2_with fail
          go_region_held3 (fun u => Below wr.heap.size wr u)
            (first
              | assumption
              | exact (Below.refl _ _).drew
              | exact Below.refl _ _)
            (first
              | (fail))
          have HT2 := Lib.hid (HT.out.on HF.out (by assumption))
          go_wp2
          go_ret
          exact ⟨by rw [HG.out]; rfl, HT2.out.below⟩
      · have k1 : ¬ (k : Int) < (n : Int) := by omega
        have HG := Lib.hid (eqL_yes (eq := Ap.Tir.sameB) (HL.out.1.trans HL.out.2.symm) fun j x y hx hy => HE.out j x y (by
          have := (List.getElem?_eq_some_iff.1 hx).1
          rw [HL.out.1] at this
          omega) hx hy)
        go_wp2
        go_ret
        exact ⟨by rw [HG.out]; rfl, HT.out.below⟩
  · have b0 : ((n : Int) != (m : Int)) = true := by rw [bne_iff_ne]; omega
    have HG := Lib.hid (eqL_len (eq := Ap.Tir.sameB) (xs := xs) (ys := ys) (by omega))
    clear ha hc hl hl2 hnm hF
    go_enter Tryz.func99, Tryz.ntmps99
    go_wp2
    go_ret
    exact ⟨by rw [HG.out]; rfl, Below.refl _ _⟩
set_option maxHeartbeats 2000000 in
theorem equalN_any (A C : Option Addr) (n m ca cc : Nat) (xs ys : List Int) (F : Nat → Prop) (w : World) (ha : Row kInt w F A n xs) (hc : Row kInt w F C m ys) (hF : ∀ b, F b → b < w.heap.size) (hn : n ≤ 9223372036854775807) :
    Calls Tryz.prog 111 #[.slice A n ca, .slice C m cc] w fun e w' => e = .returned (.bool (eqL eqI xs ys)) ∧ Below w.heap.size w w' := by
  have hl := ha.len
  have hl2 := hc.len
  have HL := Lib.hid (And.intro hl hl2)
  have HF := Lib.hid hF
  by_cases hnm : n = m
  · subst hnm
    have b0 : ((n : Int) != (n : Int)) = false := by simp
    have HT0 := Lib.hid (Two.mk ha hc (Below.refl w.heap.size w))
    clear ha hc hl hl2 hF
    go_enter Tryz.func111, Tryz.ntmps111
    go_wp2
    go_loopw [13] (fun s wr => ∃ k : Nat, s = .int .i64 k ∧ k ≤ n ∧ Hid (Two kInt w wr F A C n n xs ys) ∧ Hid (∀ (j : Nat) (x y : Int), j < k → xs[j]? = some x → ys[j]? = some y → eqI x y = true)) (fun s _ => n - (intOf s).toNat)
    case atStart => exact ⟨0, rfl, by omega, HT0, Lib.hid fun j x y hj => by omega⟩
    case round =>
      clear HT0
      obtain ⟨k, rfl, hk, HT, HE⟩ := hrel
      by_cases hlt : k < n
      · obtain ⟨x, y, hx, hy⟩ := rows_get HT.out.a HT.out.c hlt
        obtain ⟨g, o, rfl, hg1, hg2, hx1, a0⟩ := row_int HT.out.a hx
        obtain ⟨g', o', rfl, hg3, hg4, hy1, d0⟩ := row_int HT.out.c hy
        have k0 : (0 : Int) ≤ (k : Int) := by omega
        have k1 : (k : Int) < (n : Int) := by omega
        have HXY := Lib.hid (And.intro hx hy)
        have hne := fun W => neq_Int x y W
        have c0 : ∀ u, Below wr.heap.size wr u → u.cell? ⟨g, o + k, none⟩ = some (.int .i64 x) := fun u hu => (hu.cell (p := ⟨g, _, none⟩) hg2).trans a0
        have e0 : ∀ u, Below wr.heap.size wr u → u.cell? ⟨g', o' + k, none⟩ = some (.int .i64 y) := fun u hu => (hu.cell (p := ⟨g', _, none⟩) hg4).trans d0
        clear a0 d0 hx hy hg1 hg2 hg3 hg4 hx1 hy1
        cases hB : eqI x y with
        | true =>
          rw [hB] at hne
          have hm : (x != y) = false := by unfold eqI at hB; simp only [bne, hB]; rfl
          have HB := Lib.hid hB
          clear hB
          go_wp2_with fail
          go_region_held3 (fun u => Below wr.heap.size wr u)
            (first
              | assumption
              | exact (Below.refl _ _).drew
              | exact Below.refl _ _)
            (first
              | (fail))
          have HT2 := Lib.hid (HT.out.on HF.out (by assumption))
          go_wp2
          go_roundw
          case rel => exact ⟨k + 1, by go_num, by omega, HT2, Lib.hid fun j x' y' hj hx' hy' => by
            rcases Nat.lt_or_ge j k with h | h
            · exact HE.out j x' y' h hx' hy'
            · obtain rfl : j = k := by omega
              rw [HXY.out.1] at hx'
              rw [HXY.out.2] at hy'
              injection hx' with hx'
              injection hy' with hy'
              subst hx' hy'
              exact HB.out⟩
          case measure => simp [intOf]; omega
        | false =>
          rw [hB] at hne
          have hm : (x != y) = true := by unfold eqI at hB; simp only [bne, hB]; rfl
          have HG := Lib.hid (eqL_no HXY.out.1 HXY.out.2 hB)
          clear hB
          go_wp2_with fail
          go_region_held3 (fun u => Below wr.heap.size wr u)
            (first
              | assumption
              | exact (Below.refl _ _).drew
              | exact Below.refl _ _)
            (first
              | (fail))
          have HT2 := Lib.hid (HT.out.on HF.out (by assumption))
          go_wp2
          go_ret
          exact ⟨by rw [HG.out]; rfl, HT2.out.below⟩
      · have k1 : ¬ (k : Int) < (n : Int) := by omega
        have HG := Lib.hid (eqL_yes (eq := eqI) (HL.out.1.trans HL.out.2.symm) fun j x y hx hy => HE.out j x y (by
          have := (List.getElem?_eq_some_iff.1 hx).1
          rw [HL.out.1] at this
          omega) hx hy)
        go_wp2
        go_ret
        exact ⟨by rw [HG.out]; rfl, HT.out.below⟩
  · have b0 : ((n : Int) != (m : Int)) = true := by rw [bne_iff_ne]; omega
    have HG := Lib.hid (eqL_len (eq := eqI) (xs := xs) (ys := ys) (by omega))
    clear ha hc hl hl2 hnm hF
    go_enter Tryz.func111, Tryz.ntmps111
    go_wp2
    go_ret
    exact ⟨by rw [HG.out]; rfl, Below.refl _ _⟩
set_option maxHeartbeats 2000000 in
theorem equalS_any (A C : Option Addr) (n m ca cc : Nat) (xs ys : List ByteArray) (F : Nat → Prop) (w : World) (ha : Row kStr w F A n xs) (hc : Row kStr w F C m ys) (hF : ∀ b, F b → b < w.heap.size) (hn : n ≤ 9223372036854775807) :
    Calls Tryz.prog 136 #[.slice A n ca, .slice C m cc] w fun e w' => e = .returned (.bool (eqL Sr.same xs ys)) ∧ Below w.heap.size w w' := by
  have hl := ha.len
  have hl2 := hc.len
  have HL := Lib.hid (And.intro hl hl2)
  have HF := Lib.hid hF
  by_cases hnm : n = m
  · subst hnm
    have b0 : ((n : Int) != (n : Int)) = false := by simp
    have HT0 := Lib.hid (Two.mk ha hc (Below.refl w.heap.size w))
    clear ha hc hl hl2 hF
    go_enter Tryz.func136, Tryz.ntmps136
    go_wp2
    go_loopw [13] (fun s wr => ∃ k : Nat, s = .int .i64 k ∧ k ≤ n ∧ Hid (Two kStr w wr F A C n n xs ys) ∧ Hid (∀ (j : Nat) (x y : ByteArray), j < k → xs[j]? = some x → ys[j]? = some y → Sr.same x y = true)) (fun s _ => n - (intOf s).toNat)
    case atStart => exact ⟨0, rfl, by omega, HT0, Lib.hid fun j x y hj => by omega⟩
    case round =>
      clear HT0
      obtain ⟨k, rfl, hk, HT, HE⟩ := hrel
      by_cases hlt : k < n
      · obtain ⟨x, y, hx, hy⟩ := rows_get HT.out.a HT.out.c hlt
        obtain ⟨g, o, rfl, hg1, hg2, hx1, a0⟩ := row_str HT.out.a hx
        obtain ⟨g', o', rfl, hg3, hg4, hy1, d0⟩ := row_str HT.out.c hy
        have k0 : (0 : Int) ≤ (k : Int) := by omega
        have k1 : (k : Int) < (n : Int) := by omega
        have HXY := Lib.hid (And.intro hx hy)
        have hne := fun W => neq_str x y W
        have c0 : ∀ u, Below wr.heap.size wr u → u.cell? ⟨g, o + k, none⟩ = some (.string x) := fun u hu => (hu.cell (p := ⟨g, _, none⟩) hg2).trans a0
        have e0 : ∀ u, Below wr.heap.size wr u → u.cell? ⟨g', o' + k, none⟩ = some (.string y) := fun u hu => (hu.cell (p := ⟨g', _, none⟩) hg4).trans d0
        clear a0 d0 hx hy hg1 hg2 hg3 hg4 hx1 hy1
        cases hB : Sr.same x y with
        | true =>
          rw [hB] at hne
          have hm2 : (x.toList == y.toList) = true := hB
          have hm3 : x.toList = y.toList := by simpa using hm2
          have hm : (x.toList != y.toList) = false := by unfold Sr.same at hB; simp only [bne, hB]; rfl
          have HB := Lib.hid hB
          clear hB
          go_wp2_with fail
          go_region_held3 (fun u => Below wr.heap.size wr u)
            (first
              | assumption
              | exact (Below.refl _ _).drew
              | exact Below.refl _ _)
            (first
              | (fail))
          have HT2 := Lib.hid (HT.out.on HF.out (by assumption))
          go_wp2
          go_roundw
          case rel => exact ⟨k + 1, by go_num, by omega, HT2, Lib.hid fun j x' y' hj hx' hy' => by
            rcases Nat.lt_or_ge j k with h | h
            · exact HE.out j x' y' h hx' hy'
            · obtain rfl : j = k := by omega
              rw [HXY.out.1] at hx'
              rw [HXY.out.2] at hy'
              injection hx' with hx'
              injection hy' with hy'
              subst hx' hy'
              exact HB.out⟩
          case measure => simp [intOf]; omega
        | false =>
          rw [hB] at hne
          have hm2 : (x.toList == y.toList) = false := hB
          have hm3 : ¬ x.toList = y.toList := by simpa using hm2
          have hm : (x.toList != y.toList) = true := by unfold Sr.same at hB; simp only [bne, hB]; rfl
          have HG := Lib.hid (eqL_no HXY.out.1 HXY.out.2 hB)
          clear hB
          go_wp2_with fail
          go_region_held3 (fun u => Below wr.heap.size wr u)
            (first
              | assumption
              | exact (Below.refl _ _).drew
              | exact Below.refl _ _)
            (first
              | (fail))
          have HT2 := Lib.hid (HT.out.on HF.out (by assumption))
          go_wp2
          go_ret
          exact ⟨by rw [HG.out]; rfl, HT2.out.below⟩
      · have k1 : ¬ (k : Int) < (n : Int) := by omega
        have HG := Lib.hid (eqL_yes (eq := Sr.same) (HL.out.1.trans HL.out.2.symm) fun j x y hx hy => HE.out j x y (by
          have := (List.getElem?_eq_some_iff.1 hx).1
          rw [HL.out.1] at this
          omega) hx hy)
        go_wp2
        go_ret
        exact ⟨by rw [HG.out]; rfl, HT.out.below⟩
  · have b0 : ((n : Int) != (m : Int)) = true := by rw [bne_iff_ne]; omega
    have HG := Lib.hid (eqL_len (eq := Sr.same) (xs := xs) (ys := ys) (by omega))
    clear ha hc hl hl2 hnm hF
    go_enter Tryz.func136, Tryz.ntmps136
    go_wp2
    go_ret
    exact ⟨by rw [HG.out]; rfl, Below.refl _ _⟩
end Go.Proofs.YtfcmhgneijipgaaGreat.Ru
