/- The statements' help on lists of promotions. (made by wip/gen-eq.py) · The statements' helpers on items: Same, Plain, Own, Kept. · The statements' help on two rules. (made by wip/gen-ruI.py) -/
import Derived.Deep.RegionHeld3
import Derived.Laws.StructEq
import Derived.Test.YtfcmhgneijipgaaGreatPk1
import Derived.Test.YtfcmhgneijipgaaGreatPk22

section
set_option maxRecDepth 100000
set_option linter.unusedVariables false
namespace Go.Proofs.YtfcmhgneijipgaaGreat.Ru
open Go.ChangeShapes Go.WideShapes Go.ChangeAt Go.RowKit
open Ap (Scp Prt Tir Prm kPrt kPrm kTir row_Prt row_Prm)
open Kd (Row Lst Sl eqL Two rows_get eqL_no eqL_yes eqL_len Agree)
open Hp (ag_of)
set_option maxHeartbeats 20000000 in
theorem same_promos (A C : Option Addr) (n m ca cc : Nat) (xs ys : List Prm) (F : Nat → Prop) (w : World) (ha : Row kPrm w F A n xs) (hc : Row kPrm w F C m ys) (hF : ∀ b, F b → b < w.heap.size) (hn : n ≤ 9223372036854775807) (hsm : ∀ x ∈ xs, SmallP x) :
    Calls Tryz.prog 58 #[.slice A n ca, .slice C m cc, .func (.func 59) #[] #[]] w fun e w' => e = .returned (.bool (eqL eqM xs ys)) ∧ Below w.heap.size w w' := by
  have hl := ha.len
  have hl2 := hc.len
  have HL := Lib.hid (And.intro hl hl2)
  have HF := Lib.hid hF
  have HSM := Lib.hid hsm
  by_cases hnm : n = m
  · subst hnm
    have b0 : ((n : Int) != (n : Int)) = false := by simp
    have HT0 := Lib.hid (Two.mk ha hc (Below.refl w.heap.size w))
    clear ha hc hl hl2 hF
    go_enter Tryz.func58, Tryz.ntmps58
    go_wp2
    go_loopw [7] (fun s wr => ∃ k : Nat, s = .int .i64 k ∧ k ≤ n ∧ Hid (Two kPrm w wr F A C n n xs ys) ∧ Hid (∀ (j : Nat) (x y : Prm), j < k → xs[j]? = some x → ys[j]? = some y → eqM x y = true)) (fun s _ => n - (intOf s).toNat)
    case atStart => exact ⟨0, rfl, by omega, HT0, Lib.hid fun j x y hj => by omega⟩
    case round =>
      clear HT0
      obtain ⟨k, rfl, hk, HT, HE⟩ := hrel
      by_cases hlt : k < n
      · obtain ⟨x, y, hx, hy⟩ := rows_get HT.out.a HT.out.c hlt
        obtain ⟨g, o, l, rfl, hg1, hg2, hx1, a0, a1, a2, a3, a4, a5, a6, a7, a8, a9, a10, a11, a12, a13, a14⟩ := row_Prm HT.out.a hx
        obtain ⟨g', o', l', rfl, hg3, hg4, hy1, d0, d1, d2, d3, d4, d5, d6, d7, d8, d9, d10, d11, d12, d13, d14⟩ := row_Prm HT.out.c hy
        have k0 : (0 : Int) ≤ (k : Int) := by omega
        have k1 : (k : Int) < (n : Int) := by omega
        have HXY := Lib.hid (And.intro hx hy)
        have HO : Hid (∀ W, Below wr.heap.size wr W → Calls Tryz.prog 59 #[.agg #[.string x.id, .int .i64 x.kind, .int .i64 x.priority, .string x.group, .string x.code, .bool x.closes, (.slice l.scope.skus.A l.scope.skus.n l.scope.skus.c), (.slice l.scope.cats.A l.scope.cats.n l.scope.cats.c), .int .i64 x.least, .int .i64 x.rate, .int .i64 x.amount, .int .i64 x.buy, .int .i64 x.get, (.slice l.parts.A l.parts.n l.parts.c), (.slice l.tiers.A l.tiers.n l.tiers.c)], .agg #[.string y.id, .int .i64 y.kind, .int .i64 y.priority, .string y.group, .string y.code, .bool y.closes, (.slice l'.scope.skus.A l'.scope.skus.n l'.scope.skus.c), (.slice l'.scope.cats.A l'.scope.cats.n l'.scope.cats.c), .int .i64 y.least, .int .i64 y.rate, .int .i64 y.amount, .int .i64 y.buy, .int .i64 y.get, (.slice l'.parts.A l'.parts.n l'.parts.c), (.slice l'.tiers.A l'.tiers.n l'.tiers.c)]] W fun e w' => e = .returned (.bool (eqM x y)) ∧ Below wr.heap.size wr w') := Lib.hid fun W hW => (promo_same x y l l' F W (prm_on hx1 (ag_of HF.out HT.out.below hW)) (prm_on hy1 (ag_of HF.out HT.out.below hW)) (fun b hb => Nat.lt_of_lt_of_le (HF.out b hb) (Nat.le_trans HT.out.below.size hW.size)) (HSM.out x (List.mem_of_getElem? hx))).mono fun e w' he => ⟨he.1, Hk.andThen hW he.2⟩
        have c0 : ∀ u, Below wr.heap.size wr u → u.cell? ⟨g, o + k * 15, none⟩ = some (.string x.id) := fun u hu => (hu.cell (p := ⟨g, _, none⟩) hg2).trans a0
        have c1 : ∀ u, Below wr.heap.size wr u → u.cell? ⟨g, o + k * 15 + 1, none⟩ = some (.int .i64 x.kind) := fun u hu => (hu.cell (p := ⟨g, _, none⟩) hg2).trans a1
        have c2 : ∀ u, Below wr.heap.size wr u → u.cell? ⟨g, o + k * 15 + 2, none⟩ = some (.int .i64 x.priority) := fun u hu => (hu.cell (p := ⟨g, _, none⟩) hg2).trans a2
        have c3 : ∀ u, Below wr.heap.size wr u → u.cell? ⟨g, o + k * 15 + 3, none⟩ = some (.string x.group) := fun u hu => (hu.cell (p := ⟨g, _, none⟩) hg2).trans a3
        have c4 : ∀ u, Below wr.heap.size wr u → u.cell? ⟨g, o + k * 15 + 4, none⟩ = some (.string x.code) := fun u hu => (hu.cell (p := ⟨g, _, none⟩) hg2).trans a4
        have c5 : ∀ u, Below wr.heap.size wr u → u.cell? ⟨g, o + k * 15 + 5, none⟩ = some (.bool x.closes) := fun u hu => (hu.cell (p := ⟨g, _, none⟩) hg2).trans a5
        have c6 : ∀ u, Below wr.heap.size wr u → u.cell? ⟨g, o + k * 15 + 6, none⟩ = some (.slice l.scope.skus.A l.scope.skus.n l.scope.skus.c) := fun u hu => (hu.cell (p := ⟨g, _, none⟩) hg2).trans a6
        have c7 : ∀ u, Below wr.heap.size wr u → u.cell? ⟨g, o + k * 15 + 7, none⟩ = some (.slice l.scope.cats.A l.scope.cats.n l.scope.cats.c) := fun u hu => (hu.cell (p := ⟨g, _, none⟩) hg2).trans a7
        have c8 : ∀ u, Below wr.heap.size wr u → u.cell? ⟨g, o + k * 15 + 8, none⟩ = some (.int .i64 x.least) := fun u hu => (hu.cell (p := ⟨g, _, none⟩) hg2).trans a8
        have c9 : ∀ u, Below wr.heap.size wr u → u.cell? ⟨g, o + k * 15 + 9, none⟩ = some (.int .i64 x.rate) := fun u hu => (hu.cell (p := ⟨g, _, none⟩) hg2).trans a9
        have c10 : ∀ u, Below wr.heap.size wr u → u.cell? ⟨g, o + k * 15 + 10, none⟩ = some (.int .i64 x.amount) := fun u hu => (hu.cell (p := ⟨g, _, none⟩) hg2).trans a10
        have c11 : ∀ u, Below wr.heap.size wr u → u.cell? ⟨g, o + k * 15 + 11, none⟩ = some (.int .i64 x.buy) := fun u hu => (hu.cell (p := ⟨g, _, none⟩) hg2).trans a11
        have c12 : ∀ u, Below wr.heap.size wr u → u.cell? ⟨g, o + k * 15 + 12, none⟩ = some (.int .i64 x.get) := fun u hu => (hu.cell (p := ⟨g, _, none⟩) hg2).trans a12
        have c13 : ∀ u, Below wr.heap.size wr u → u.cell? ⟨g, o + k * 15 + 13, none⟩ = some (.slice l.parts.A l.parts.n l.parts.c) := fun u hu => (hu.cell (p := ⟨g, _, none⟩) hg2).trans a13
        have c14 : ∀ u, Below wr.heap.size wr u → u.cell? ⟨g, o + k * 15 + 14, none⟩ = some (.slice l.tiers.A l.tiers.n l.tiers.c) := fun u hu => (hu.cell (p := ⟨g, _, none⟩) hg2).trans a14
        have e0 : ∀ u, Below wr.heap.size wr u → u.cell? ⟨g', o' + k * 15, none⟩ = some (.string y.id) := fun u hu => (hu.cell (p := ⟨g', _, none⟩) hg4).trans d0
        have e1 : ∀ u, Below wr.heap.size wr u → u.cell? ⟨g', o' + k * 15 + 1, none⟩ = some (.int .i64 y.kind) := fun u hu => (hu.cell (p := ⟨g', _, none⟩) hg4).trans d1
        have e2 : ∀ u, Below wr.heap.size wr u → u.cell? ⟨g', o' + k * 15 + 2, none⟩ = some (.int .i64 y.priority) := fun u hu => (hu.cell (p := ⟨g', _, none⟩) hg4).trans d2
        have e3 : ∀ u, Below wr.heap.size wr u → u.cell? ⟨g', o' + k * 15 + 3, none⟩ = some (.string y.group) := fun u hu => (hu.cell (p := ⟨g', _, none⟩) hg4).trans d3
        have e4 : ∀ u, Below wr.heap.size wr u → u.cell? ⟨g', o' + k * 15 + 4, none⟩ = some (.string y.code) := fun u hu => (hu.cell (p := ⟨g', _, none⟩) hg4).trans d4
        have e5 : ∀ u, Below wr.heap.size wr u → u.cell? ⟨g', o' + k * 15 + 5, none⟩ = some (.bool y.closes) := fun u hu => (hu.cell (p := ⟨g', _, none⟩) hg4).trans d5
        have e6 : ∀ u, Below wr.heap.size wr u → u.cell? ⟨g', o' + k * 15 + 6, none⟩ = some (.slice l'.scope.skus.A l'.scope.skus.n l'.scope.skus.c) := fun u hu => (hu.cell (p := ⟨g', _, none⟩) hg4).trans d6
        have e7 : ∀ u, Below wr.heap.size wr u → u.cell? ⟨g', o' + k * 15 + 7, none⟩ = some (.slice l'.scope.cats.A l'.scope.cats.n l'.scope.cats.c) := fun u hu => (hu.cell (p := ⟨g', _, none⟩) hg4).trans d7
        have e8 : ∀ u, Below wr.heap.size wr u → u.cell? ⟨g', o' + k * 15 + 8, none⟩ = some (.int .i64 y.least) := fun u hu => (hu.cell (p := ⟨g', _, none⟩) hg4).trans d8
        have e9 : ∀ u, Below wr.heap.size wr u → u.cell? ⟨g', o' + k * 15 + 9, none⟩ = some (.int .i64 y.rate) := fun u hu => (hu.cell (p := ⟨g', _, none⟩) hg4).trans d9
        have e10 : ∀ u, Below wr.heap.size wr u → u.cell? ⟨g', o' + k * 15 + 10, none⟩ = some (.int .i64 y.amount) := fun u hu => (hu.cell (p := ⟨g', _, none⟩) hg4).trans d10
        have e11 : ∀ u, Below wr.heap.size wr u → u.cell? ⟨g', o' + k * 15 + 11, none⟩ = some (.int .i64 y.buy) := fun u hu => (hu.cell (p := ⟨g', _, none⟩) hg4).trans d11
        have e12 : ∀ u, Below wr.heap.size wr u → u.cell? ⟨g', o' + k * 15 + 12, none⟩ = some (.int .i64 y.get) := fun u hu => (hu.cell (p := ⟨g', _, none⟩) hg4).trans d12
        have e13 : ∀ u, Below wr.heap.size wr u → u.cell? ⟨g', o' + k * 15 + 13, none⟩ = some (.slice l'.parts.A l'.parts.n l'.parts.c) := fun u hu => (hu.cell (p := ⟨g', _, none⟩) hg4).trans d13
        have e14 : ∀ u, Below wr.heap.size wr u → u.cell? ⟨g', o' + k * 15 + 14, none⟩ = some (.slice l'.tiers.A l'.tiers.n l'.tiers.c) := fun u hu => (hu.cell (p := ⟨g', _, none⟩) hg4).trans d14
        clear a0 d0 a1 d1 a2 d2 a3 d3 a4 d4 a5 d5 a6 d6 a7 d7 a8 d8 a9 d9 a10 d10 a11 d11 a12 d12 a13 d13 a14 d14 hx hy hg1 hg2 hg3 hg4 hx1 hy1
        cases hB : eqM x y with
        | true =>
          rw [hB] at HO
          have HB := Lib.hid hB
          clear hB
          go_wp2_with fail
          go_region_held3 (fun u => Below wr.heap.size wr u)
            (first
              | assumption
              | exact (Below.refl _ _).drew
              | exact Below.refl _ _)
            (first
              | (go_at_call 59; refine (HO.out _ (by first | assumption | exact (Below.refl _ _).drew)).mono ?_; rintro e wz ⟨rfl, hz⟩))
          have HT2 := Lib.hid (HT.out.on HF.out hz)
          clear hz
          go_wp2
          go_roundw
          case rel => exact ⟨k + 1, by go_num, by omega, HT2, Lib.hid fun j x' y' hj hx' hy' => by
            rcases Nat.lt_or_ge j k with h | h
            · exact HE.out j x' y' h hx' hy'
            · obtain rfl : j = k := by omega
              rw [HXY.out.1] at hx'
              rw [HXY.out.2] at hy'
              injection hx' with hx'
              injection hy' with hy'
              subst hx' hy'
              exact HB.out⟩
          case measure => simp [intOf]; omega
        | false =>
          rw [hB] at HO
          have HG := Lib.hid (eqL_no HXY.out.1 HXY.out.2 hB)
          clear hB
          go_wp2_with fail
          go_region_held3 (fun u => Below wr.heap.size wr u)
            (first
              | assumption
              | exact (Below.refl _ _).drew
              | exact Below.refl _ _)
            (first
              | (go_at_call 59; refine (HO.out _ (by first | assumption | exact (Below.refl _ _).drew)).mono ?_; rintro e wz ⟨rfl, hz⟩))
          have HT2 := Lib.hid (HT.out.on HF.out hz)
          clear hz
          go_wp2
          go_ret
          exact ⟨by rw [HG.out]; rfl, HT2.out.below⟩
      · have k1 : ¬ (k : Int) < (n : Int) := by omega
        have HG := Lib.hid (eqL_yes (eq := eqM) (HL.out.1.trans HL.out.2.symm) fun j x y hx hy => HE.out j x y (by
          have := (List.getElem?_eq_some_iff.1 hx).1
          rw [HL.out.1] at this
          omega) hx hy)
        go_wp2
        go_ret
        exact ⟨by rw [HG.out]; rfl, HT.out.below⟩
  · have b0 : ((n : Int) != (m : Int)) = true := by rw [bne_iff_ne]; omega
    have HG := Lib.hid (eqL_len (eq := eqM) (xs := xs) (ys := ys) (by omega))
    clear ha hc hl hl2 hnm hF
    go_enter Tryz.func58, Tryz.ntmps58
    go_wp2
    go_ret
    exact ⟨by rw [HG.out]; rfl, Below.refl _ _⟩
end Go.Proofs.YtfcmhgneijipgaaGreat.Ru

end

section
set_option maxRecDepth 100000
set_option linter.unusedVariables false
namespace Go.Proofs.YtfcmhgneijipgaaGreat.It
open Go.ChangeShapes Go.WideShapes Go.ChangeAt Go.RowKit
open Kd (Kind Row Own Cells Reads Fields Fit Agree kInt kStr kFlag kPair kVia Filling Owned eqL eqL_len eqL_no eqL_yes eqL_refl Two rows_get)
def sameB (x y : Itm) : Bool := Sr.same x.sku y.sku && Sr.same x.cat y.cat && (x.price == y.price) && (x.fin == y.fin)
theorem sameB_refl (x : Itm) : sameB x x = true := by
  unfold sameB
  rw [Sr.same_refl, Sr.same_refl]
  simp
set_option maxHeartbeats 1000000 in
theorem eq_any (x y : Itm) (w : World) : Calls Tryz.prog 114 #[.agg #[.string x.sku, .string x.cat, .int .i64 x.price, .bool x.fin], .agg #[.string y.sku, .string y.cat, .int .i64 y.price, .bool y.fin]] w fun e w' => e = .returned (.bool (sameB x y)) ∧ Below w.heap.size w w' := by
  have hd : sameB x y = ((x.sku.toList == y.sku.toList) && (x.cat.toList == y.cat.toList) && (x.price == y.price) && (x.fin == y.fin)) := rfl
  have HD := Lib.hid hd
  have HB : Hid (∀ o p, Below w.heap.size w ((w.alloc o).alloc p)) := Lib.hid fun o p => ((Below.refl _ _).alloc (Nat.le_refl _) _).alloc (by simp) _
  clear hd
  go_enter Tryz.func114, Tryz.ntmps114
  go_wp2
  all_goals (go_ret; refine ⟨?_, HB.out _ _⟩; rw [HD.out]; simp [*])
set_option maxHeartbeats 1000000 in
theorem same_any (A C : Option Addr) (n m ca cc : Nat) (xs ys : List Itm) (F : Nat → Prop) (w : World) (ha : Row kItem w F A n xs) (hc : Row kItem w F C m ys) (hF : ∀ b, F b → b < w.heap.size) (hn : n ≤ 9223372036854775807) :
    Calls Tryz.prog 113 #[.slice A n ca, .slice C m cc, .func (.func 114) #[] #[]] w fun e w' => e = .returned (.bool (eqL sameB xs ys)) ∧ Below w.heap.size w w' := by
  have hl := ha.len
  have hl2 := hc.len
  have HL := Lib.hid (And.intro hl hl2)
  have HF := Lib.hid hF
  by_cases hnm : n = m
  · subst hnm
    have b0 : ((n : Int) != (n : Int)) = false := by simp
    have HT0 := Lib.hid (Two.mk ha hc (Below.refl w.heap.size w))
    clear ha hc hl hl2 hF
    go_enter Tryz.func113, Tryz.ntmps113
    go_wp2
    go_loopw [7] (fun s wr => ∃ k : Nat, s = .int .i64 k ∧ k ≤ n ∧ Hid (Two kItem w wr F A C n n xs ys) ∧ Hid (∀ (j : Nat) (x y : Itm), j < k → xs[j]? = some x → ys[j]? = some y → sameB x y = true)) (fun s _ => n - (intOf s).toNat)
    case atStart => exact ⟨0, rfl, by omega, HT0, Lib.hid fun j x y hj => by omega⟩
    case round =>
      clear HT0
      obtain ⟨k, rfl, hk, HT, HE⟩ := hrel
      by_cases hlt : k < n
      · obtain ⟨x, y, hx, hy⟩ := rows_get HT.out.a HT.out.c hlt
        obtain ⟨g, o, rfl, hg1, hg2, _, a0, a1, a2, a3⟩ := row_item HT.out.a hx
        obtain ⟨g', o', rfl, hg3, hg4, _, d0, d1, d2, d3⟩ := row_item HT.out.c hy
        have k0 : (0 : Int) ≤ (k : Int) := by omega
        have k1 : (k : Int) < (n : Int) := by omega
        have HXY := Lib.hid (And.intro hx hy)
        have HO : Hid (∀ W, Below wr.heap.size wr W → Calls Tryz.prog 114 #[.agg #[.string x.sku, .string x.cat, .int .i64 x.price, .bool x.fin], .agg #[.string y.sku, .string y.cat, .int .i64 y.price, .bool y.fin]] W fun e w' => e = .returned (.bool (sameB x y)) ∧ Below wr.heap.size wr w') := Lib.hid fun W hW => (eq_any x y W).mono fun e w' h => ⟨h.1, Hk.andThen hW h.2⟩
        have c0 : ∀ u, Below wr.heap.size wr u → u.cell? ⟨g, o + k * 4, none⟩ = some (.string x.sku) := fun u hu => (hu.cell (p := ⟨g, _, none⟩) hg2).trans a0
        have c1 : ∀ u, Below wr.heap.size wr u → u.cell? ⟨g, o + k * 4 + 1, none⟩ = some (.string x.cat) := fun u hu => (hu.cell (p := ⟨g, _, none⟩) hg2).trans a1
        have c2 : ∀ u, Below wr.heap.size wr u → u.cell? ⟨g, o + k * 4 + 2, none⟩ = some (.int .i64 x.price) := fun u hu => (hu.cell (p := ⟨g, _, none⟩) hg2).trans a2
        have c3 : ∀ u, Below wr.heap.size wr u → u.cell? ⟨g, o + k * 4 + 3, none⟩ = some (.bool x.fin) := fun u hu => (hu.cell (p := ⟨g, _, none⟩) hg2).trans a3
        have e0 : ∀ u, Below wr.heap.size wr u → u.cell? ⟨g', o' + k * 4, none⟩ = some (.string y.sku) := fun u hu => (hu.cell (p := ⟨g', _, none⟩) hg4).trans d0
        have e1 : ∀ u, Below wr.heap.size wr u → u.cell? ⟨g', o' + k * 4 + 1, none⟩ = some (.string y.cat) := fun u hu => (hu.cell (p := ⟨g', _, none⟩) hg4).trans d1
        have e2 : ∀ u, Below wr.heap.size wr u → u.cell? ⟨g', o' + k * 4 + 2, none⟩ = some (.int .i64 y.price) := fun u hu => (hu.cell (p := ⟨g', _, none⟩) hg4).trans d2
        have e3 : ∀ u, Below wr.heap.size wr u → u.cell? ⟨g', o' + k * 4 + 3, none⟩ = some (.bool y.fin) := fun u hu => (hu.cell (p := ⟨g', _, none⟩) hg4).trans d3
        clear a0 a1 a2 a3 d0 d1 d2 d3 hx hy hg1 hg2 hg3 hg4
        cases hB : sameB x y with
        | true =>
          rw [hB] at HO
          have HB := Lib.hid hB
          clear hB
          go_wp2_with fail
          go_region_held3 (fun u => Below wr.heap.size wr u)
            (first
              | assumption
              | exact (Below.refl _ _).drew
              | exact Below.refl _ _)
            (first
              | (go_at_call 114; refine (HO.out _ (by first | assumption | exact (Below.refl _ _).drew)).mono ?_; rintro e wz ⟨rfl, hz⟩))
          have HT2 := Lib.hid (HT.out.on HF.out hz)
          clear hz
          go_wp2
          go_roundw
          case rel => exact ⟨k + 1, by go_num, by omega, HT2, Lib.hid fun j x' y' hj hx' hy' => by
            rcases Nat.lt_or_ge j k with h | h
            · exact HE.out j x' y' h hx' hy'
            · obtain rfl : j = k := by omega
              rw [HXY.out.1] at hx'
              rw [HXY.out.2] at hy'
              injection hx' with hx'
              injection hy' with hy'
              subst hx' hy'
              exact HB.out⟩
          case measure => simp [intOf]; omega
        | false =>
          rw [hB] at HO
          have HG := Lib.hid (eqL_no HXY.out.1 HXY.out.2 hB)
          clear hB
          go_wp2_with fail
          go_region_held3 (fun u => Below wr.heap.size wr u)
            (first
              | assumption
              | exact (Below.refl _ _).drew
              | exact Below.refl _ _)
            (first
              | (go_at_call 114; refine (HO.out _ (by first | assumption | exact (Below.refl _ _).drew)).mono ?_; rintro e wz ⟨rfl, hz⟩))
          have HT2 := Lib.hid (HT.out.on HF.out hz)
          clear hz
          go_wp2
          go_ret
          exact ⟨by rw [HG.out]; rfl, HT2.out.below⟩
      · have k1 : ¬ (k : Int) < (n : Int) := by omega
        have HG := Lib.hid (eqL_yes (eq := sameB) (HL.out.1.trans HL.out.2.symm) fun j x y hx hy => HE.out j x y (by
          have := (List.getElem?_eq_some_iff.1 hx).1
          rw [HL.out.1] at this
          omega) hx hy)
        go_wp2
        go_ret
        exact ⟨by rw [HG.out]; rfl, HT.out.below⟩
  · have b0 : ((n : Int) != (m : Int)) = true := by rw [bne_iff_ne]; omega
    have HG := Lib.hid (eqL_len (eq := sameB) (xs := xs) (ys := ys) (by omega))
    clear ha hc hl hl2 hnm hF
    go_enter Tryz.func113, Tryz.ntmps113
    go_wp2
    go_ret
    exact ⟨by rw [HG.out]; rfl, Below.refl _ _⟩
theorem plain_any (A C : Option Addr) (n m ca cc : Nat) (xs ys : List Itm) (F : Nat → Prop) (w : World) (ha : Row kItem w F A n xs) (hc : Row kItem w F C m ys) (hF : ∀ b, F b → b < w.heap.size) (hn : n ≤ 9223372036854775807) :
    Calls Tryz.prog 57 #[.slice A n ca, .slice C m cc] w fun e w' => e = .returned (.bool (eqL sameB xs ys)) ∧ Below w.heap.size w w' := by
  have HS := Lib.hid (same_any A C n m ca cc xs ys F w ha hc hF hn)
  clear ha hc hF
  go_enter Tryz.func57, Tryz.ntmps57
  go_wp2_with fail
  refine HS.out.mono ?_
  rintro e w1 ⟨rfl, hb⟩
  have HB := Lib.hid hb
  clear hb
  go_wp2
  go_ret
  exact ⟨rfl, HB.out⟩
theorem info_item : (Tryz.prog.info? 44).map (fun i => (i.zero, i.size, i.bytes)) = some (some (.agg #[.string ⟨#[]⟩, .string ⟨#[]⟩, .int .i64 0, .bool false]), 4, 48) := by kernel_rfl
theorem enc_one (x : Itm) : ∀ u ∈ x.enc, u.oneCell' = true := by
  intro u hu
  simp only [Itm.enc, List.mem_cons, List.not_mem_nil, or_false] at hu
  rcases hu with rfl | rfl | rfl | rfl <;> rfl
end Go.Proofs.YtfcmhgneijipgaaGreat.It

end

section
set_option maxRecDepth 100000
set_option linter.unusedVariables false
namespace Go.Proofs.YtfcmhgneijipgaaGreat.Ru
open Go.ChangeShapes Go.WideShapes Go.ChangeAt Go.RowKit
open Ap (CtR Zon Txs Shp Pol Rls Scp Prt Tir Prm kPrm kTir row_Prm)
open Kd (Row Lst Sl eqL Two rows_get eqL_no eqL_yes eqL_len Agree)
open Hp (ag_of)
theorem txs_on2 {w W : World} {F : Nat → Prop} {x : Txs} {l : Txs.Lay} (h : Txs.Holds w F x l) (ha : Agree F w W) : Txs.Holds W F x l := ⟨h.round, h.zones.row.stay ha, h.zones.fit⟩
theorem pol_on2 {w W : World} {F : Nat → Prop} {x : Pol} {l : Pol.Lay} (h : Pol.Holds w F x l) (ha : Agree F w W) : Pol.Holds W F x l := ⟨h.window, h.grace, h.mode, h.restock, ⟨h.order.row.stay ha, h.order.fit⟩, ⟨h.credit.row.stay ha, h.credit.fit⟩⟩
theorem rls_on {w W : World} {F : Nat → Prop} {x : Rls} {l : Rls.Lay} (h : Rls.Holds w F x l) (ha : Agree F w W) : Rls.Holds W F x l :=
  ⟨⟨h.items.row.stay ha, h.items.fit⟩, ⟨h.promos.row.stay ha, h.promos.fit⟩, txs_on2 h.tax ha, h.ship, pol_on2 h.policy ha⟩
structure SmallR (x : Rls) : Prop where
  items : x.items.length ≤ 9223372036854775807
  promos : x.promos.length ≤ 9223372036854775807
  each : ∀ p ∈ x.promos, SmallP p
  zones : x.tax.zones.length ≤ 9223372036854775807
  rates : ∀ z ∈ x.tax.zones, z.rates.length ≤ 9223372036854775807
  order : x.policy.order.length ≤ 9223372036854775807
  credit : x.policy.credit.length ≤ 9223372036854775807
def eqW (x y : Shp) : Bool := (x.fee == y.fee) && (x.free == y.free)
def eqR (x y : Rls) : Bool := eqL It.sameB x.items y.items && eqL eqM x.promos y.promos && eqX x.tax y.tax && eqW x.ship y.ship && eqP x.policy y.policy
set_option maxHeartbeats 20000000 in
theorem rules_same (x y : Rls) (l l' : Rls.Lay) (F : Nat → Prop) (w : World) (hx : Rls.Holds w F x l) (hy : Rls.Holds w F y l') (hF : ∀ b, F b → b < w.heap.size) (hR : SmallR x) :
    Calls Tryz.prog 17 #[.agg #[(.slice l.items.A l.items.n l.items.c), (.slice l.promos.A l.promos.n l.promos.c), .bool x.tax.incl, .bool x.tax.byOrder, .int .i64 x.tax.round, (.slice l.tax.zones.A l.tax.zones.n l.tax.zones.c), .int .i64 x.ship.fee, .int .i64 x.ship.free, .int .i64 x.policy.window, .int .i64 x.policy.grace, .int .i64 x.policy.mode, .int .i64 x.policy.restock, (.slice l.policy.order.A l.policy.order.n l.policy.order.c), (.slice l.policy.credit.A l.policy.credit.n l.policy.credit.c)], .agg #[(.slice l'.items.A l'.items.n l'.items.c), (.slice l'.promos.A l'.promos.n l'.promos.c), .bool y.tax.incl, .bool y.tax.byOrder, .int .i64 y.tax.round, (.slice l'.tax.zones.A l'.tax.zones.n l'.tax.zones.c), .int .i64 y.ship.fee, .int .i64 y.ship.free, .int .i64 y.policy.window, .int .i64 y.policy.grace, .int .i64 y.policy.mode, .int .i64 y.policy.restock, (.slice l'.policy.order.A l'.policy.order.n l'.policy.order.c), (.slice l'.policy.credit.A l'.policy.credit.n l'.policy.credit.c)]] w fun e w' => e = .returned (.bool (eqR x y)) ∧ Below w.heap.size w w' := by
  obtain ⟨W1, hW1⟩ : ∃ W1, w.alloc (.cells #[(.slice l.items.A l.items.n l.items.c), (.slice l.promos.A l.promos.n l.promos.c), .bool x.tax.incl, .bool x.tax.byOrder, .int .i64 x.tax.round, (.slice l.tax.zones.A l.tax.zones.n l.tax.zones.c), .int .i64 x.ship.fee, .int .i64 x.ship.free, .int .i64 x.policy.window, .int .i64 x.policy.grace, .int .i64 x.policy.mode, .int .i64 x.policy.restock, (.slice l.policy.order.A l.policy.order.n l.policy.order.c), (.slice l.policy.credit.A l.policy.credit.n l.policy.credit.c)] 33) = W1 := ⟨_, rfl⟩
  obtain ⟨W2, hW2⟩ : ∃ W2, W1.alloc (.cells #[(.slice l'.items.A l'.items.n l'.items.c), (.slice l'.promos.A l'.promos.n l'.promos.c), .bool y.tax.incl, .bool y.tax.byOrder, .int .i64 y.tax.round, (.slice l'.tax.zones.A l'.tax.zones.n l'.tax.zones.c), .int .i64 y.ship.fee, .int .i64 y.ship.free, .int .i64 y.policy.window, .int .i64 y.policy.grace, .int .i64 y.policy.mode, .int .i64 y.policy.restock, (.slice l'.policy.order.A l'.policy.order.n l'.policy.order.c), (.slice l'.policy.credit.A l'.policy.credit.n l'.policy.credit.c)] 33) = W2 := ⟨_, rfl⟩
  have hB : Below w.heap.size w W2 := by rw [← hW2, ← hW1]; exact ((Below.refl _ _).alloc (Nat.le_refl _) _).alloc (by simp) _
  have hbx : Qu.Blk W2 w.heap.size 33 #[(.slice l.items.A l.items.n l.items.c), (.slice l.promos.A l.promos.n l.promos.c), .bool x.tax.incl, .bool x.tax.byOrder, .int .i64 x.tax.round, (.slice l.tax.zones.A l.tax.zones.n l.tax.zones.c), .int .i64 x.ship.fee, .int .i64 x.ship.free, .int .i64 x.policy.window, .int .i64 x.policy.grace, .int .i64 x.policy.mode, .int .i64 x.policy.restock, (.slice l.policy.order.A l.policy.order.n l.policy.order.c), (.slice l.policy.credit.A l.policy.credit.n l.policy.credit.c)] := by rw [← hW2, ← hW1]; exact (Qu.Blk.new w _ _).alloc _
  have hby : Qu.Blk W2 W1.heap.size 33 #[(.slice l'.items.A l'.items.n l'.items.c), (.slice l'.promos.A l'.promos.n l'.promos.c), .bool y.tax.incl, .bool y.tax.byOrder, .int .i64 y.tax.round, (.slice l'.tax.zones.A l'.tax.zones.n l'.tax.zones.c), .int .i64 y.ship.fee, .int .i64 y.ship.free, .int .i64 y.policy.window, .int .i64 y.policy.grace, .int .i64 y.policy.mode, .int .i64 y.policy.restock, (.slice l'.policy.order.A l'.policy.order.n l'.policy.order.c), (.slice l'.policy.credit.A l'.policy.credit.n l'.policy.credit.c)] := by rw [← hW2]; exact Qu.Blk.new W1 _ _
  have HO0 : Hid (∀ W, Below W2.heap.size W2 W → Calls Tryz.prog 57 #[.slice l.items.A l.items.n l.items.c, .slice l'.items.A l'.items.n l'.items.c] W fun e w' => e = .returned (.bool (eqL It.sameB x.items y.items)) ∧ Below W2.heap.size W2 w') := Lib.hid fun W hW =>
    (It.plain_any l.items.A l'.items.A l.items.n l'.items.n l.items.c l'.items.c x.items y.items F W (hx.items.row.stay (ag_of2 hF hB hW)) (hy.items.row.stay (ag_of2 hF hB hW)) (fun b hb => Nat.lt_of_lt_of_le (hF b hb) (Nat.le_trans hB.size hW.size)) (by have := hx.items.row.len; have := hR.items; omega)).mono fun e w' he => ⟨he.1, Hk.andThen hW he.2⟩
  have HO1 : Hid (∀ W, Below W2.heap.size W2 W → Calls Tryz.prog 58 #[.slice l.promos.A l.promos.n l.promos.c, .slice l'.promos.A l'.promos.n l'.promos.c, .func (.func 59) #[] #[]] W fun e w' => e = .returned (.bool (eqL eqM x.promos y.promos)) ∧ Below W2.heap.size W2 w') := Lib.hid fun W hW =>
    (same_promos l.promos.A l'.promos.A l.promos.n l'.promos.n l.promos.c l'.promos.c x.promos y.promos F W (hx.promos.row.stay (ag_of2 hF hB hW)) (hy.promos.row.stay (ag_of2 hF hB hW)) (fun b hb => Nat.lt_of_lt_of_le (hF b hb) (Nat.le_trans hB.size hW.size)) (by have := hx.promos.row.len; have := hR.promos; omega) hR.each).mono fun e w' he => ⟨he.1, Hk.andThen hW he.2⟩
  have HO2 : Hid (∀ W, Below W2.heap.size W2 W → Calls Tryz.prog 60 #[.agg #[.bool x.tax.incl, .bool x.tax.byOrder, .int .i64 x.tax.round, .slice l.tax.zones.A l.tax.zones.n l.tax.zones.c], .agg #[.bool y.tax.incl, .bool y.tax.byOrder, .int .i64 y.tax.round, .slice l'.tax.zones.A l'.tax.zones.n l'.tax.zones.c]] W fun e w' => e = .returned (.bool (eqX x.tax y.tax)) ∧ Below W2.heap.size W2 w') := Lib.hid fun W hW =>
    (tax_same x.tax y.tax l.tax l'.tax F W (txs_on2 hx.tax (ag_of2 hF hB hW)) (txs_on2 hy.tax (ag_of2 hF hB hW)) (fun b hb => Nat.lt_of_lt_of_le (hF b hb) (Nat.le_trans hB.size hW.size)) hR.zones hR.rates).mono fun e w' he => ⟨he.1, Hk.andThen hW he.2⟩
  have HO4 : Hid (∀ W, Below W2.heap.size W2 W → Calls Tryz.prog 61 #[.agg #[.int .i64 x.policy.window, .int .i64 x.policy.grace, .int .i64 x.policy.mode, .int .i64 x.policy.restock, .slice l.policy.order.A l.policy.order.n l.policy.order.c, .slice l.policy.credit.A l.policy.credit.n l.policy.credit.c], .agg #[.int .i64 y.policy.window, .int .i64 y.policy.grace, .int .i64 y.policy.mode, .int .i64 y.policy.restock, .slice l'.policy.order.A l'.policy.order.n l'.policy.order.c, .slice l'.policy.credit.A l'.policy.credit.n l'.policy.credit.c]] W fun e w' => e = .returned (.bool (eqP x.policy y.policy)) ∧ Below W2.heap.size W2 w') := Lib.hid fun W hW =>
    (policy_same x.policy y.policy l.policy l'.policy F W (pol_on2 hx.policy (ag_of2 hF hB hW)) (pol_on2 hy.policy (ag_of2 hF hB hW)) (fun b hb => Nat.lt_of_lt_of_le (hF b hb) (Nat.le_trans hB.size hW.size)) hR.order hR.credit).mono fun e w' he => ⟨he.1, Hk.andThen hW he.2⟩
  have x0 := hbx.cell 0
  have y0 := hby.cell 0
  have x1 := hbx.cell 1
  have y1 := hby.cell 1
  have x2 := hbx.cell 2
  have y2 := hby.cell 2
  have x3 := hbx.cell 3
  have y3 := hby.cell 3
  have x4 := hbx.cell 4
  have y4 := hby.cell 4
  have x5 := hbx.cell 5
  have y5 := hby.cell 5
  have x6 := hbx.cell 6
  have y6 := hby.cell 6
  have x7 := hbx.cell 7
  have y7 := hby.cell 7
  have x8 := hbx.cell 8
  have y8 := hby.cell 8
  have x9 := hbx.cell 9
  have y9 := hby.cell 9
  have x10 := hbx.cell 10
  have y10 := hby.cell 10
  have x11 := hbx.cell 11
  have y11 := hby.cell 11
  have x12 := hbx.cell 12
  have y12 := hby.cell 12
  have x13 := hbx.cell 13
  have y13 := hby.cell 13
  have HB := Lib.hid (And.intro hB (And.intro hbx hby))
  have HZ : Hid (eqR x y = (eqL It.sameB x.items y.items && eqL eqM x.promos y.promos && eqX x.tax y.tax && eqW x.ship y.ship && eqP x.policy y.policy)) := Lib.hid rfl
  obtain ⟨v0, hv0⟩ : ∃ b, eqL It.sameB x.items y.items = b := ⟨_, rfl⟩
  obtain ⟨v1, hv1⟩ : ∃ b, eqL eqM x.promos y.promos = b := ⟨_, rfl⟩
  obtain ⟨v2, hv2⟩ : ∃ b, eqX x.tax y.tax = b := ⟨_, rfl⟩
  obtain ⟨v3, hv3⟩ : ∃ b, eqW x.ship y.ship = b := ⟨_, rfl⟩
  obtain ⟨v4, hv4⟩ : ∃ b, eqP x.policy y.policy = b := ⟨_, rfl⟩
  simp only [hv0] at HO0
  simp only [hv1] at HO1
  simp only [hv2] at HO2
  simp only [hv4] at HO4
  rw [hv0, hv1, hv2, hv3, hv4] at HZ
  clear hv0 hv1 hv2 hv4 hx hy hF hbx hby hB
  go_enter Tryz.func17, Tryz.ntmps17
  go_wp2_with fail
  refine (HO0.out _ (Below.refl _ _)).mono ?_
  rintro e wz0 ⟨rfl, hz0⟩
  have x0 := (HB.out.2.1.below hz0).cell 0
  have y0 := (HB.out.2.2.below hz0).cell 0
  have x1 := (HB.out.2.1.below hz0).cell 1
  have y1 := (HB.out.2.2.below hz0).cell 1
  have x2 := (HB.out.2.1.below hz0).cell 2
  have y2 := (HB.out.2.2.below hz0).cell 2
  have x3 := (HB.out.2.1.below hz0).cell 3
  have y3 := (HB.out.2.2.below hz0).cell 3
  have x4 := (HB.out.2.1.below hz0).cell 4
  have y4 := (HB.out.2.2.below hz0).cell 4
  have x5 := (HB.out.2.1.below hz0).cell 5
  have y5 := (HB.out.2.2.below hz0).cell 5
  have x6 := (HB.out.2.1.below hz0).cell 6
  have y6 := (HB.out.2.2.below hz0).cell 6
  have x7 := (HB.out.2.1.below hz0).cell 7
  have y7 := (HB.out.2.2.below hz0).cell 7
  have x8 := (HB.out.2.1.below hz0).cell 8
  have y8 := (HB.out.2.2.below hz0).cell 8
  have x9 := (HB.out.2.1.below hz0).cell 9
  have y9 := (HB.out.2.2.below hz0).cell 9
  have x10 := (HB.out.2.1.below hz0).cell 10
  have y10 := (HB.out.2.2.below hz0).cell 10
  have x11 := (HB.out.2.1.below hz0).cell 11
  have y11 := (HB.out.2.2.below hz0).cell 11
  have x12 := (HB.out.2.1.below hz0).cell 12
  have y12 := (HB.out.2.2.below hz0).cell 12
  have x13 := (HB.out.2.1.below hz0).cell 13
  have y13 := (HB.out.2.2.below hz0).cell 13
  cases v0 with
  | false =>
    go_wp2
    go_ret
    exact ⟨by rw [HZ.out]; rfl, HB.out.1.trans (hz0.mono HB.out.1.size)⟩
  | true =>
    go_wp2_with fail
    refine (HO1.out _ hz0).mono ?_
    rintro e wz1 ⟨rfl, hz1⟩
    have x0 := (HB.out.2.1.below hz1).cell 0
    have y0 := (HB.out.2.2.below hz1).cell 0
    have x1 := (HB.out.2.1.below hz1).cell 1
    have y1 := (HB.out.2.2.below hz1).cell 1
    have x2 := (HB.out.2.1.below hz1).cell 2
    have y2 := (HB.out.2.2.below hz1).cell 2
    have x3 := (HB.out.2.1.below hz1).cell 3
    have y3 := (HB.out.2.2.below hz1).cell 3
    have x4 := (HB.out.2.1.below hz1).cell 4
    have y4 := (HB.out.2.2.below hz1).cell 4
    have x5 := (HB.out.2.1.below hz1).cell 5
    have y5 := (HB.out.2.2.below hz1).cell 5
    have x6 := (HB.out.2.1.below hz1).cell 6
    have y6 := (HB.out.2.2.below hz1).cell 6
    have x7 := (HB.out.2.1.below hz1).cell 7
    have y7 := (HB.out.2.2.below hz1).cell 7
    have x8 := (HB.out.2.1.below hz1).cell 8
    have y8 := (HB.out.2.2.below hz1).cell 8
    have x9 := (HB.out.2.1.below hz1).cell 9
    have y9 := (HB.out.2.2.below hz1).cell 9
    have x10 := (HB.out.2.1.below hz1).cell 10
    have y10 := (HB.out.2.2.below hz1).cell 10
    have x11 := (HB.out.2.1.below hz1).cell 11
    have y11 := (HB.out.2.2.below hz1).cell 11
    have x12 := (HB.out.2.1.below hz1).cell 12
    have y12 := (HB.out.2.2.below hz1).cell 12
    have x13 := (HB.out.2.1.below hz1).cell 13
    have y13 := (HB.out.2.2.below hz1).cell 13
    cases v1 with
    | false =>
      go_wp2
      go_ret
      exact ⟨by rw [HZ.out]; rfl, HB.out.1.trans (hz1.mono HB.out.1.size)⟩
    | true =>
      go_wp2_with fail
      refine (HO2.out _ hz1).mono ?_
      rintro e wz2 ⟨rfl, hz2⟩
      have x0 := (HB.out.2.1.below hz2).cell 0
      have y0 := (HB.out.2.2.below hz2).cell 0
      have x1 := (HB.out.2.1.below hz2).cell 1
      have y1 := (HB.out.2.2.below hz2).cell 1
      have x2 := (HB.out.2.1.below hz2).cell 2
      have y2 := (HB.out.2.2.below hz2).cell 2
      have x3 := (HB.out.2.1.below hz2).cell 3
      have y3 := (HB.out.2.2.below hz2).cell 3
      have x4 := (HB.out.2.1.below hz2).cell 4
      have y4 := (HB.out.2.2.below hz2).cell 4
      have x5 := (HB.out.2.1.below hz2).cell 5
      have y5 := (HB.out.2.2.below hz2).cell 5
      have x6 := (HB.out.2.1.below hz2).cell 6
      have y6 := (HB.out.2.2.below hz2).cell 6
      have x7 := (HB.out.2.1.below hz2).cell 7
      have y7 := (HB.out.2.2.below hz2).cell 7
      have x8 := (HB.out.2.1.below hz2).cell 8
      have y8 := (HB.out.2.2.below hz2).cell 8
      have x9 := (HB.out.2.1.below hz2).cell 9
      have y9 := (HB.out.2.2.below hz2).cell 9
      have x10 := (HB.out.2.1.below hz2).cell 10
      have y10 := (HB.out.2.2.below hz2).cell 10
      have x11 := (HB.out.2.1.below hz2).cell 11
      have y11 := (HB.out.2.2.below hz2).cell 11
      have x12 := (HB.out.2.1.below hz2).cell 12
      have y12 := (HB.out.2.2.below hz2).cell 12
      have x13 := (HB.out.2.1.below hz2).cell 13
      have y13 := (HB.out.2.2.below hz2).cell 13
      cases v2 with
      | false =>
        go_wp2
        go_ret
        exact ⟨by rw [HZ.out]; rfl, HB.out.1.trans (hz2.mono HB.out.1.size)⟩
      | true =>
        by_cases f1 : x.ship.fee = y.ship.fee
        · by_cases f2 : x.ship.free = y.ship.free
          · obtain rfl : v3 = true := by rw [← hv3]; simp [eqW, f1, f2]
            go_wp2_with fail
            refine (HO4.out _ hz2).mono ?_
            rintro e wz4 ⟨rfl, hz4⟩
            go_wp2
            go_ret
            exact ⟨by rw [HZ.out]; rfl, HB.out.1.trans (hz4.mono HB.out.1.size)⟩
          · obtain rfl : v3 = false := by rw [← hv3]; simp [eqW, f2]
            go_wp2
            go_ret
            exact ⟨by rw [HZ.out]; rfl, HB.out.1.trans (hz2.mono HB.out.1.size)⟩
        · obtain rfl : v3 = false := by rw [← hv3]; simp [eqW, f1]
          go_wp2
          go_ret
          exact ⟨by rw [HZ.out]; rfl, HB.out.1.trans (hz2.mono HB.out.1.size)⟩end Go.Proofs.YtfcmhgneijipgaaGreat.Ru

end
