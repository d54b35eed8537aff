/- The statements' helpers on api.Tier: Same, Plain, Own, Kept. · The statements' helps on parts and promotions, two and lists of them. (made by wip/gen-eq.py) · The statements' help on two promotions. (made by wip/gen-eq.py) -/
import Derived.Deep.RegionHeld3
import Derived.Laws.StructEq
import Derived.Test.YtfcmhgneijipgaaGreatPk1
import Derived.Test.YtfcmhgneijipgaaGreatPk21

section
set_option maxRecDepth 100000
set_option linter.unusedVariables false
namespace Go.Proofs.YtfcmhgneijipgaaGreat.Ap.Tir
open Go.ChangeShapes Go.WideShapes Go.ChangeAt Go.RowKit
open Kd (Kind Row Own Cells Reads Fields Fit Agree kInt kStr kFlag kPair kVia Filling Owned eqL eqL_len eqL_no eqL_yes eqL_refl Two rows_get)
def sameB (x y : Tir) : Bool := (x.least == y.least) && (x.rate == y.rate) && (x.amount == y.amount)
theorem sameB_refl (x : Tir) : sameB x x = true := by
  unfold sameB
  simp
set_option maxHeartbeats 1000000 in
theorem eq_any (x y : Tir) (w : World) : Calls Tryz.prog 147 #[.agg #[.int .i64 x.least, .int .i64 x.rate, .int .i64 x.amount], .agg #[.int .i64 y.least, .int .i64 y.rate, .int .i64 y.amount]] w fun e w' => e = .returned (.bool (sameB x y)) ∧ Below w.heap.size w w' := by
  have hd : sameB x y = ((x.least == y.least) && (x.rate == y.rate) && (x.amount == y.amount)) := rfl
  have HD := Lib.hid hd
  have HB : Hid (∀ o p, Below w.heap.size w ((w.alloc o).alloc p)) := Lib.hid fun o p => ((Below.refl _ _).alloc (Nat.le_refl _) _).alloc (by simp) _
  clear hd
  go_enter Tryz.func147, Tryz.ntmps147
  go_wp2
  all_goals (go_ret; refine ⟨?_, HB.out _ _⟩; rw [HD.out]; simp [*])
set_option maxHeartbeats 1000000 in
theorem same_any (A C : Option Addr) (n m ca cc : Nat) (xs ys : List Tir) (F : Nat → Prop) (w : World) (ha : Row kTir w F A n xs) (hc : Row kTir w F C m ys) (hF : ∀ b, F b → b < w.heap.size) (hn : n ≤ 9223372036854775807) :
    Calls Tryz.prog 146 #[.slice A n ca, .slice C m cc, .func (.func 147) #[] #[]] w fun e w' => e = .returned (.bool (eqL sameB xs ys)) ∧ Below w.heap.size w w' := by
  have hl := ha.len
  have hl2 := hc.len
  have HL := Lib.hid (And.intro hl hl2)
  have HF := Lib.hid hF
  by_cases hnm : n = m
  · subst hnm
    have b0 : ((n : Int) != (n : Int)) = false := by simp
    have HT0 := Lib.hid (Two.mk ha hc (Below.refl w.heap.size w))
    clear ha hc hl hl2 hF
    go_enter Tryz.func146, Tryz.ntmps146
    go_wp2
    go_loopw [7] (fun s wr => ∃ k : Nat, s = .int .i64 k ∧ k ≤ n ∧ Hid (Two kTir w wr F A C n n xs ys) ∧ Hid (∀ (j : Nat) (x y : Tir), j < k → xs[j]? = some x → ys[j]? = some y → sameB x y = true)) (fun s _ => n - (intOf s).toNat)
    case atStart => exact ⟨0, rfl, by omega, HT0, Lib.hid fun j x y hj => by omega⟩
    case round =>
      clear HT0
      obtain ⟨k, rfl, hk, HT, HE⟩ := hrel
      by_cases hlt : k < n
      · obtain ⟨x, y, hx, hy⟩ := rows_get HT.out.a HT.out.c hlt
        obtain ⟨g, o, rfl, hg1, hg2, _, a0, a1, a2⟩ := row_Tir HT.out.a hx
        obtain ⟨g', o', rfl, hg3, hg4, _, d0, d1, d2⟩ := row_Tir HT.out.c hy
        have k0 : (0 : Int) ≤ (k : Int) := by omega
        have k1 : (k : Int) < (n : Int) := by omega
        have HXY := Lib.hid (And.intro hx hy)
        have HO : Hid (∀ W, Below wr.heap.size wr W → Calls Tryz.prog 147 #[.agg #[.int .i64 x.least, .int .i64 x.rate, .int .i64 x.amount], .agg #[.int .i64 y.least, .int .i64 y.rate, .int .i64 y.amount]] W fun e w' => e = .returned (.bool (sameB x y)) ∧ Below wr.heap.size wr w') := Lib.hid fun W hW => (eq_any x y W).mono fun e w' h => ⟨h.1, Hk.andThen hW h.2⟩
        have c0 : ∀ u, Below wr.heap.size wr u → u.cell? ⟨g, o + k * 3, none⟩ = some (.int .i64 x.least) := fun u hu => (hu.cell (p := ⟨g, _, none⟩) hg2).trans a0
        have c1 : ∀ u, Below wr.heap.size wr u → u.cell? ⟨g, o + k * 3 + 1, none⟩ = some (.int .i64 x.rate) := fun u hu => (hu.cell (p := ⟨g, _, none⟩) hg2).trans a1
        have c2 : ∀ u, Below wr.heap.size wr u → u.cell? ⟨g, o + k * 3 + 2, none⟩ = some (.int .i64 x.amount) := fun u hu => (hu.cell (p := ⟨g, _, none⟩) hg2).trans a2
        have e0 : ∀ u, Below wr.heap.size wr u → u.cell? ⟨g', o' + k * 3, none⟩ = some (.int .i64 y.least) := fun u hu => (hu.cell (p := ⟨g', _, none⟩) hg4).trans d0
        have e1 : ∀ u, Below wr.heap.size wr u → u.cell? ⟨g', o' + k * 3 + 1, none⟩ = some (.int .i64 y.rate) := fun u hu => (hu.cell (p := ⟨g', _, none⟩) hg4).trans d1
        have e2 : ∀ u, Below wr.heap.size wr u → u.cell? ⟨g', o' + k * 3 + 2, none⟩ = some (.int .i64 y.amount) := fun u hu => (hu.cell (p := ⟨g', _, none⟩) hg4).trans d2
        clear a0 a1 a2 d0 d1 d2 hx hy hg1 hg2 hg3 hg4
        cases hB : sameB x y with
        | true =>
          rw [hB] at HO
          have HB := Lib.hid hB
          clear hB
          go_wp2_with fail
          go_region_held3 (fun u => Below wr.heap.size wr u)
            (first
              | assumption
              | exact (Below.refl _ _).drew
              | exact Below.refl _ _)
            (first
              | (go_at_call 147; refine (HO.out _ (by first | assumption | exact (Below.refl _ _).drew)).mono ?_; rintro e wz ⟨rfl, hz⟩))
          have HT2 := Lib.hid (HT.out.on HF.out hz)
          clear hz
          go_wp2
          go_roundw
          case rel => exact ⟨k + 1, by go_num, by omega, HT2, Lib.hid fun j x' y' hj hx' hy' => by
            rcases Nat.lt_or_ge j k with h | h
            · exact HE.out j x' y' h hx' hy'
            · obtain rfl : j = k := by omega
              rw [HXY.out.1] at hx'
              rw [HXY.out.2] at hy'
              injection hx' with hx'
              injection hy' with hy'
              subst hx' hy'
              exact HB.out⟩
          case measure => simp [intOf]; omega
        | false =>
          rw [hB] at HO
          have HG := Lib.hid (eqL_no HXY.out.1 HXY.out.2 hB)
          clear hB
          go_wp2_with fail
          go_region_held3 (fun u => Below wr.heap.size wr u)
            (first
              | assumption
              | exact (Below.refl _ _).drew
              | exact Below.refl _ _)
            (first
              | (go_at_call 147; refine (HO.out _ (by first | assumption | exact (Below.refl _ _).drew)).mono ?_; rintro e wz ⟨rfl, hz⟩))
          have HT2 := Lib.hid (HT.out.on HF.out hz)
          clear hz
          go_wp2
          go_ret
          exact ⟨by rw [HG.out]; rfl, HT2.out.below⟩
      · have k1 : ¬ (k : Int) < (n : Int) := by omega
        have HG := Lib.hid (eqL_yes (eq := sameB) (HL.out.1.trans HL.out.2.symm) fun j x y hx hy => HE.out j x y (by
          have := (List.getElem?_eq_some_iff.1 hx).1
          rw [HL.out.1] at this
          omega) hx hy)
        go_wp2
        go_ret
        exact ⟨by rw [HG.out]; rfl, HT.out.below⟩
  · have b0 : ((n : Int) != (m : Int)) = true := by rw [bne_iff_ne]; omega
    have HG := Lib.hid (eqL_len (eq := sameB) (xs := xs) (ys := ys) (by omega))
    clear ha hc hl hl2 hnm hF
    go_enter Tryz.func146, Tryz.ntmps146
    go_wp2
    go_ret
    exact ⟨by rw [HG.out]; rfl, Below.refl _ _⟩
theorem plain_any (A C : Option Addr) (n m ca cc : Nat) (xs ys : List Tir) (F : Nat → Prop) (w : World) (ha : Row kTir w F A n xs) (hc : Row kTir w F C m ys) (hF : ∀ b, F b → b < w.heap.size) (hn : n ≤ 9223372036854775807) :
    Calls Tryz.prog 118 #[.slice A n ca, .slice C m cc] w fun e w' => e = .returned (.bool (eqL sameB xs ys)) ∧ Below w.heap.size w w' := by
  have HS := Lib.hid (same_any A C n m ca cc xs ys F w ha hc hF hn)
  clear ha hc hF
  go_enter Tryz.func118, Tryz.ntmps118
  go_wp2_with fail
  refine HS.out.mono ?_
  rintro e w1 ⟨rfl, hb⟩
  have HB := Lib.hid hb
  clear hb
  go_wp2
  go_ret
  exact ⟨rfl, HB.out⟩
end Go.Proofs.YtfcmhgneijipgaaGreat.Ap.Tir

end

section
set_option maxRecDepth 100000
set_option linter.unusedVariables false
namespace Go.Proofs.YtfcmhgneijipgaaGreat.Ru
open Go.ChangeShapes Go.WideShapes Go.ChangeAt Go.RowKit
open Ap (Scp Prt Tir Prm kPrt kPrm kTir row_Prt row_Prm)
open Kd (Row Lst Sl eqL Two rows_get eqL_no eqL_yes eqL_len Agree)
open Hp (ag_of)
theorem scp_on {w W : World} {F : Nat → Prop} {x : Scp} {l : Scp.Lay} (h : Scp.Holds w F x l) (ha : Agree F w W) : Scp.Holds W F x l := ⟨⟨h.skus.row.stay ha, h.skus.fit⟩, ⟨h.cats.row.stay ha, h.cats.fit⟩⟩
theorem prt_on {w W : World} {F : Nat → Prop} {x : Prt} {l : Prt.Lay} (h : Prt.Holds w F x l) (ha : Agree F w W) : Prt.Holds W F x l := ⟨scp_on h.scope ha, h.count⟩
theorem prm_on {w W : World} {F : Nat → Prop} {x : Prm} {l : Prm.Lay} (h : Prm.Holds w F x l) (ha : Agree F w W) : Prm.Holds W F x l :=
  ⟨h.id, h.kind, h.priority, h.group, h.code, scp_on h.scope ha, h.least, h.rate, h.amount, h.buy, h.get, ⟨h.parts.row.stay ha, h.parts.fit⟩, ⟨h.tiers.row.stay ha, h.tiers.fit⟩⟩
def SmallS (x : Scp) : Prop := x.skus.length ≤ 9223372036854775807 ∧ x.cats.length ≤ 9223372036854775807
structure SmallP (x : Prm) : Prop where
  scope : SmallS x.scope
  parts : x.parts.length ≤ 9223372036854775807
  each : ∀ z ∈ x.parts, SmallS z.scope
  tiers : x.tiers.length ≤ 9223372036854775807
def eqT (x y : Prt) : Bool := (x.count == y.count) && eqS x.scope y.scope
set_option maxHeartbeats 4000000 in
theorem part_same (x y : Prt) (l l' : Prt.Lay) (F : Nat → Prop) (w : World) (hx : Prt.Holds w F x l) (hy : Prt.Holds w F y l') (hF : ∀ b, F b → b < w.heap.size) (hS : SmallS x.scope) :
    Calls Tryz.prog 117 #[.agg #[(.slice l.scope.skus.A l.scope.skus.n l.scope.skus.c), (.slice l.scope.cats.A l.scope.cats.n l.scope.cats.c), .int .i64 x.count], .agg #[(.slice l'.scope.skus.A l'.scope.skus.n l'.scope.skus.c), (.slice l'.scope.cats.A l'.scope.cats.n l'.scope.cats.c), .int .i64 y.count]] w fun e w' => e = .returned (.bool (eqT x y)) ∧ Below w.heap.size w w' := by
  obtain ⟨W1, hW1⟩ : ∃ W1, w.alloc (.cells #[(.slice l.scope.skus.A l.scope.skus.n l.scope.skus.c), (.slice l.scope.cats.A l.scope.cats.n l.scope.cats.c), .int .i64 x.count] 111) = W1 := ⟨_, rfl⟩
  obtain ⟨W2, hW2⟩ : ∃ W2, W1.alloc (.cells #[(.slice l'.scope.skus.A l'.scope.skus.n l'.scope.skus.c), (.slice l'.scope.cats.A l'.scope.cats.n l'.scope.cats.c), .int .i64 y.count] 111) = W2 := ⟨_, rfl⟩
  have hB : Below w.heap.size w W2 := by rw [← hW2, ← hW1]; exact ((Below.refl _ _).alloc (Nat.le_refl _) _).alloc (by simp) _
  have hbx : Qu.Blk W2 w.heap.size 111 #[(.slice l.scope.skus.A l.scope.skus.n l.scope.skus.c), (.slice l.scope.cats.A l.scope.cats.n l.scope.cats.c), .int .i64 x.count] := by rw [← hW2, ← hW1]; exact (Qu.Blk.new w _ _).alloc _
  have hby : Qu.Blk W2 W1.heap.size 111 #[(.slice l'.scope.skus.A l'.scope.skus.n l'.scope.skus.c), (.slice l'.scope.cats.A l'.scope.cats.n l'.scope.cats.c), .int .i64 y.count] := by rw [← hW2]; exact Qu.Blk.new W1 _ _
  have HO1 : Hid (∀ W, Below W2.heap.size W2 W → Calls Tryz.prog 115 #[.agg #[.slice l.scope.skus.A l.scope.skus.n l.scope.skus.c, .slice l.scope.cats.A l.scope.cats.n l.scope.cats.c], .agg #[.slice l'.scope.skus.A l'.scope.skus.n l'.scope.skus.c, .slice l'.scope.cats.A l'.scope.cats.n l'.scope.cats.c]] W fun e w' => e = .returned (.bool (eqS x.scope y.scope)) ∧ Below W2.heap.size W2 w') := Lib.hid fun W hW =>
    (scope_same x.scope y.scope l.scope l'.scope F W (scp_on hx.scope (ag_of2 hF hB hW)) (scp_on hy.scope (ag_of2 hF hB hW)) (fun b hb => Nat.lt_of_lt_of_le (hF b hb) (Nat.le_trans hB.size hW.size)) hS.1 hS.2).mono fun e w' he => ⟨he.1, Hk.andThen hW he.2⟩
  have x0 := hbx.cell 0
  have y0 := hby.cell 0
  have x1 := hbx.cell 1
  have y1 := hby.cell 1
  have x2 := hbx.cell 2
  have y2 := hby.cell 2
  have HB := Lib.hid (And.intro hB (And.intro hbx hby))
  have HZ : Hid (eqT x y = ((x.count == y.count) && eqS x.scope y.scope)) := Lib.hid rfl
  obtain ⟨v0, hv0⟩ : ∃ b, (x.count == y.count) = b := ⟨_, rfl⟩
  obtain ⟨v1, hv1⟩ : ∃ b, eqS x.scope y.scope = b := ⟨_, rfl⟩
  simp only [hv1] at HO1
  rw [hv0, hv1] at HZ
  clear hv1 hx hy hF hbx hby hB
  go_enter Tryz.func117, Tryz.ntmps117
  cases v0 with
  | false =>
    go_wp2
    go_ret
    exact ⟨by rw [HZ.out]; rfl, HB.out.1⟩
  | true =>
    go_wp2_with fail
    refine (HO1.out _ (Below.refl _ _)).mono ?_
    rintro e wz1 ⟨rfl, hz1⟩
    go_wp2
    go_ret
    exact ⟨by rw [HZ.out]; rfl, HB.out.1.trans (hz1.mono HB.out.1.size)⟩
set_option maxHeartbeats 4000000 in
theorem same_parts (A C : Option Addr) (n m ca cc : Nat) (xs ys : List Prt) (F : Nat → Prop) (w : World) (ha : Row kPrt w F A n xs) (hc : Row kPrt w F C m ys) (hF : ∀ b, F b → b < w.heap.size) (hn : n ≤ 9223372036854775807) (hsm : ∀ x ∈ xs, SmallS x.scope) :
    Calls Tryz.prog 116 #[.slice A n ca, .slice C m cc, .func (.func 117) #[] #[]] w fun e w' => e = .returned (.bool (eqL eqT xs ys)) ∧ Below w.heap.size w w' := by
  have hl := ha.len
  have hl2 := hc.len
  have HL := Lib.hid (And.intro hl hl2)
  have HF := Lib.hid hF
  have HSM := Lib.hid hsm
  by_cases hnm : n = m
  · subst hnm
    have b0 : ((n : Int) != (n : Int)) = false := by simp
    have HT0 := Lib.hid (Two.mk ha hc (Below.refl w.heap.size w))
    clear ha hc hl hl2 hF
    go_enter Tryz.func116, Tryz.ntmps116
    go_wp2
    go_loopw [7] (fun s wr => ∃ k : Nat, s = .int .i64 k ∧ k ≤ n ∧ Hid (Two kPrt w wr F A C n n xs ys) ∧ Hid (∀ (j : Nat) (x y : Prt), j < k → xs[j]? = some x → ys[j]? = some y → eqT x y = true)) (fun s _ => n - (intOf s).toNat)
    case atStart => exact ⟨0, rfl, by omega, HT0, Lib.hid fun j x y hj => by omega⟩
    case round =>
      clear HT0
      obtain ⟨k, rfl, hk, HT, HE⟩ := hrel
      by_cases hlt : k < n
      · obtain ⟨x, y, hx, hy⟩ := rows_get HT.out.a HT.out.c hlt
        obtain ⟨g, o, l, rfl, hg1, hg2, hx1, a0, a1, a2⟩ := row_Prt HT.out.a hx
        obtain ⟨g', o', l', rfl, hg3, hg4, hy1, d0, d1, d2⟩ := row_Prt HT.out.c hy
        have k0 : (0 : Int) ≤ (k : Int) := by omega
        have k1 : (k : Int) < (n : Int) := by omega
        have HXY := Lib.hid (And.intro hx hy)
        have HO : Hid (∀ W, Below wr.heap.size wr W → Calls Tryz.prog 117 #[.agg #[(.slice l.scope.skus.A l.scope.skus.n l.scope.skus.c), (.slice l.scope.cats.A l.scope.cats.n l.scope.cats.c), .int .i64 x.count], .agg #[(.slice l'.scope.skus.A l'.scope.skus.n l'.scope.skus.c), (.slice l'.scope.cats.A l'.scope.cats.n l'.scope.cats.c), .int .i64 y.count]] W fun e w' => e = .returned (.bool (eqT x y)) ∧ Below wr.heap.size wr w') := Lib.hid fun W hW => (part_same x y l l' F W (prt_on hx1 (ag_of HF.out HT.out.below hW)) (prt_on hy1 (ag_of HF.out HT.out.below hW)) (fun b hb => Nat.lt_of_lt_of_le (HF.out b hb) (Nat.le_trans HT.out.below.size hW.size)) (HSM.out x (List.mem_of_getElem? hx))).mono fun e w' he => ⟨he.1, Hk.andThen hW he.2⟩
        have c0 : ∀ u, Below wr.heap.size wr u → u.cell? ⟨g, o + k * 3, none⟩ = some (.slice l.scope.skus.A l.scope.skus.n l.scope.skus.c) := fun u hu => (hu.cell (p := ⟨g, _, none⟩) hg2).trans a0
        have c1 : ∀ u, Below wr.heap.size wr u → u.cell? ⟨g, o + k * 3 + 1, none⟩ = some (.slice l.scope.cats.A l.scope.cats.n l.scope.cats.c) := fun u hu => (hu.cell (p := ⟨g, _, none⟩) hg2).trans a1
        have c2 : ∀ u, Below wr.heap.size wr u → u.cell? ⟨g, o + k * 3 + 2, none⟩ = some (.int .i64 x.count) := fun u hu => (hu.cell (p := ⟨g, _, none⟩) hg2).trans a2
        have e0 : ∀ u, Below wr.heap.size wr u → u.cell? ⟨g', o' + k * 3, none⟩ = some (.slice l'.scope.skus.A l'.scope.skus.n l'.scope.skus.c) := fun u hu => (hu.cell (p := ⟨g', _, none⟩) hg4).trans d0
        have e1 : ∀ u, Below wr.heap.size wr u → u.cell? ⟨g', o' + k * 3 + 1, none⟩ = some (.slice l'.scope.cats.A l'.scope.cats.n l'.scope.cats.c) := fun u hu => (hu.cell (p := ⟨g', _, none⟩) hg4).trans d1
        have e2 : ∀ u, Below wr.heap.size wr u → u.cell? ⟨g', o' + k * 3 + 2, none⟩ = some (.int .i64 y.count) := fun u hu => (hu.cell (p := ⟨g', _, none⟩) hg4).trans d2
        clear a0 d0 a1 d1 a2 d2 hx hy hg1 hg2 hg3 hg4 hx1 hy1
        cases hB : eqT x y with
        | true =>
          rw [hB] at HO
          have HB := Lib.hid hB
          clear hB
          go_wp2_with fail
          go_region_held3 (fun u => Below wr.heap.size wr u)
            (first
              | assumption
              | exact (Below.refl _ _).drew
              | exact Below.refl _ _)
            (first
              | (go_at_call 117; refine (HO.out _ (by first | assumption | exact (Below.refl _ _).drew)).mono ?_; rintro e wz ⟨rfl, hz⟩))
          have HT2 := Lib.hid (HT.out.on HF.out hz)
          clear hz
          go_wp2
          go_roundw
          case rel => exact ⟨k + 1, by go_num, by omega, HT2, Lib.hid fun j x' y' hj hx' hy' => by
            rcases Nat.lt_or_ge j k with h | h
            · exact HE.out j x' y' h hx' hy'
            · obtain rfl : j = k := by omega
              rw [HXY.out.1] at hx'
              rw [HXY.out.2] at hy'
              injection hx' with hx'
              injection hy' with hy'
              subst hx' hy'
              exact HB.out⟩
          case measure => simp [intOf]; omega
        | false =>
          rw [hB] at HO
          have HG := Lib.hid (eqL_no HXY.out.1 HXY.out.2 hB)
          clear hB
          go_wp2_with fail
          go_region_held3 (fun u => Below wr.heap.size wr u)
            (first
              | assumption
              | exact (Below.refl _ _).drew
              | exact Below.refl _ _)
            (first
              | (go_at_call 117; refine (HO.out _ (by first | assumption | exact (Below.refl _ _).drew)).mono ?_; rintro e wz ⟨rfl, hz⟩))
          have HT2 := Lib.hid (HT.out.on HF.out hz)
          clear hz
          go_wp2
          go_ret
          exact ⟨by rw [HG.out]; rfl, HT2.out.below⟩
      · have k1 : ¬ (k : Int) < (n : Int) := by omega
        have HG := Lib.hid (eqL_yes (eq := eqT) (HL.out.1.trans HL.out.2.symm) fun j x y hx hy => HE.out j x y (by
          have := (List.getElem?_eq_some_iff.1 hx).1
          rw [HL.out.1] at this
          omega) hx hy)
        go_wp2
        go_ret
        exact ⟨by rw [HG.out]; rfl, HT.out.below⟩
  · have b0 : ((n : Int) != (m : Int)) = true := by rw [bne_iff_ne]; omega
    have HG := Lib.hid (eqL_len (eq := eqT) (xs := xs) (ys := ys) (by omega))
    clear ha hc hl hl2 hnm hF
    go_enter Tryz.func116, Tryz.ntmps116
    go_wp2
    go_ret
    exact ⟨by rw [HG.out]; rfl, Below.refl _ _⟩
end Go.Proofs.YtfcmhgneijipgaaGreat.Ru

end

section
set_option maxRecDepth 100000
set_option linter.unusedVariables false
namespace Go.Proofs.YtfcmhgneijipgaaGreat.Ru
open Go.ChangeShapes Go.WideShapes Go.ChangeAt Go.RowKit
open Ap (Scp Prt Tir Prm kPrt kPrm kTir row_Prt row_Prm)
open Kd (Row Lst Sl eqL Two rows_get eqL_no eqL_yes eqL_len Agree)
open Hp (ag_of)
def eqM (x y : Prm) : Bool := Sr.same x.id y.id && (x.kind == y.kind) && (x.priority == y.priority) && Sr.same x.group y.group && Sr.same x.code y.code && (x.closes == y.closes) && eqS x.scope y.scope && (x.least == y.least) && (x.rate == y.rate) && (x.amount == y.amount) && (x.buy == y.buy) && (x.get == y.get) && eqL eqT x.parts y.parts && eqL Tir.sameB x.tiers y.tiers
set_option maxHeartbeats 40000000 in
theorem promo_same (x y : Prm) (l l' : Prm.Lay) (F : Nat → Prop) (w : World) (hx : Prm.Holds w F x l) (hy : Prm.Holds w F y l') (hF : ∀ b, F b → b < w.heap.size) (hP : SmallP x) :
    Calls Tryz.prog 59 #[.agg #[.string x.id, .int .i64 x.kind, .int .i64 x.priority, .string x.group, .string x.code, .bool x.closes, (.slice l.scope.skus.A l.scope.skus.n l.scope.skus.c), (.slice l.scope.cats.A l.scope.cats.n l.scope.cats.c), .int .i64 x.least, .int .i64 x.rate, .int .i64 x.amount, .int .i64 x.buy, .int .i64 x.get, (.slice l.parts.A l.parts.n l.parts.c), (.slice l.tiers.A l.tiers.n l.tiers.c)], .agg #[.string y.id, .int .i64 y.kind, .int .i64 y.priority, .string y.group, .string y.code, .bool y.closes, (.slice l'.scope.skus.A l'.scope.skus.n l'.scope.skus.c), (.slice l'.scope.cats.A l'.scope.cats.n l'.scope.cats.c), .int .i64 y.least, .int .i64 y.rate, .int .i64 y.amount, .int .i64 y.buy, .int .i64 y.get, (.slice l'.parts.A l'.parts.n l'.parts.c), (.slice l'.tiers.A l'.tiers.n l'.tiers.c)]] w fun e w' => e = .returned (.bool (eqM x y)) ∧ Below w.heap.size w w' := by
  obtain ⟨W1, hW1⟩ : ∃ W1, w.alloc (.cells #[.string x.id, .int .i64 x.kind, .int .i64 x.priority, .string x.group, .string x.code, .bool x.closes, (.slice l.scope.skus.A l.scope.skus.n l.scope.skus.c), (.slice l.scope.cats.A l.scope.cats.n l.scope.cats.c), .int .i64 x.least, .int .i64 x.rate, .int .i64 x.amount, .int .i64 x.buy, .int .i64 x.get, (.slice l.parts.A l.parts.n l.parts.c), (.slice l.tiers.A l.tiers.n l.tiers.c)] 51) = W1 := ⟨_, rfl⟩
  obtain ⟨W2, hW2⟩ : ∃ W2, W1.alloc (.cells #[.string y.id, .int .i64 y.kind, .int .i64 y.priority, .string y.group, .string y.code, .bool y.closes, (.slice l'.scope.skus.A l'.scope.skus.n l'.scope.skus.c), (.slice l'.scope.cats.A l'.scope.cats.n l'.scope.cats.c), .int .i64 y.least, .int .i64 y.rate, .int .i64 y.amount, .int .i64 y.buy, .int .i64 y.get, (.slice l'.parts.A l'.parts.n l'.parts.c), (.slice l'.tiers.A l'.tiers.n l'.tiers.c)] 51) = W2 := ⟨_, rfl⟩
  have hB : Below w.heap.size w W2 := by rw [← hW2, ← hW1]; exact ((Below.refl _ _).alloc (Nat.le_refl _) _).alloc (by simp) _
  have hbx : Qu.Blk W2 w.heap.size 51 #[.string x.id, .int .i64 x.kind, .int .i64 x.priority, .string x.group, .string x.code, .bool x.closes, (.slice l.scope.skus.A l.scope.skus.n l.scope.skus.c), (.slice l.scope.cats.A l.scope.cats.n l.scope.cats.c), .int .i64 x.least, .int .i64 x.rate, .int .i64 x.amount, .int .i64 x.buy, .int .i64 x.get, (.slice l.parts.A l.parts.n l.parts.c), (.slice l.tiers.A l.tiers.n l.tiers.c)] := by rw [← hW2, ← hW1]; exact (Qu.Blk.new w _ _).alloc _
  have hby : Qu.Blk W2 W1.heap.size 51 #[.string y.id, .int .i64 y.kind, .int .i64 y.priority, .string y.group, .string y.code, .bool y.closes, (.slice l'.scope.skus.A l'.scope.skus.n l'.scope.skus.c), (.slice l'.scope.cats.A l'.scope.cats.n l'.scope.cats.c), .int .i64 y.least, .int .i64 y.rate, .int .i64 y.amount, .int .i64 y.buy, .int .i64 y.get, (.slice l'.parts.A l'.parts.n l'.parts.c), (.slice l'.tiers.A l'.tiers.n l'.tiers.c)] := by rw [← hW2]; exact Qu.Blk.new W1 _ _
  have HO6 : Hid (∀ W, Below W2.heap.size W2 W → Calls Tryz.prog 115 #[.agg #[.slice l.scope.skus.A l.scope.skus.n l.scope.skus.c, .slice l.scope.cats.A l.scope.cats.n l.scope.cats.c], .agg #[.slice l'.scope.skus.A l'.scope.skus.n l'.scope.skus.c, .slice l'.scope.cats.A l'.scope.cats.n l'.scope.cats.c]] W fun e w' => e = .returned (.bool (eqS x.scope y.scope)) ∧ Below W2.heap.size W2 w') := Lib.hid fun W hW =>
    (scope_same x.scope y.scope l.scope l'.scope F W (scp_on hx.scope (ag_of2 hF hB hW)) (scp_on hy.scope (ag_of2 hF hB hW)) (fun b hb => Nat.lt_of_lt_of_le (hF b hb) (Nat.le_trans hB.size hW.size)) hP.scope.1 hP.scope.2).mono fun e w' he => ⟨he.1, Hk.andThen hW he.2⟩
  have HO12 : Hid (∀ W, Below W2.heap.size W2 W → Calls Tryz.prog 116 #[.slice l.parts.A l.parts.n l.parts.c, .slice l'.parts.A l'.parts.n l'.parts.c, .func (.func 117) #[] #[]] W fun e w' => e = .returned (.bool (eqL eqT x.parts y.parts)) ∧ Below W2.heap.size W2 w') := Lib.hid fun W hW =>
    (same_parts l.parts.A l'.parts.A l.parts.n l'.parts.n l.parts.c l'.parts.c x.parts y.parts F W (hx.parts.row.stay (ag_of2 hF hB hW)) (hy.parts.row.stay (ag_of2 hF hB hW)) (fun b hb => Nat.lt_of_lt_of_le (hF b hb) (Nat.le_trans hB.size hW.size)) (by have := hx.parts.row.len; have := hP.parts; omega) hP.each).mono fun e w' he => ⟨he.1, Hk.andThen hW he.2⟩
  have HO13 : Hid (∀ W, Below W2.heap.size W2 W → Calls Tryz.prog 118 #[.slice l.tiers.A l.tiers.n l.tiers.c, .slice l'.tiers.A l'.tiers.n l'.tiers.c] W fun e w' => e = .returned (.bool (eqL Tir.sameB x.tiers y.tiers)) ∧ Below W2.heap.size W2 w') := Lib.hid fun W hW =>
    (Tir.plain_any l.tiers.A l'.tiers.A l.tiers.n l'.tiers.n l.tiers.c l'.tiers.c x.tiers y.tiers F W (hx.tiers.row.stay (ag_of2 hF hB hW)) (hy.tiers.row.stay (ag_of2 hF hB hW)) (fun b hb => Nat.lt_of_lt_of_le (hF b hb) (Nat.le_trans hB.size hW.size)) (by have := hx.tiers.row.len; have := hP.tiers; omega)).mono fun e w' he => ⟨he.1, Hk.andThen hW he.2⟩
  have x0 := hbx.cell 0
  have y0 := hby.cell 0
  have x1 := hbx.cell 1
  have y1 := hby.cell 1
  have x2 := hbx.cell 2
  have y2 := hby.cell 2
  have x3 := hbx.cell 3
  have y3 := hby.cell 3
  have x4 := hbx.cell 4
  have y4 := hby.cell 4
  have x5 := hbx.cell 5
  have y5 := hby.cell 5
  have x6 := hbx.cell 6
  have y6 := hby.cell 6
  have x7 := hbx.cell 7
  have y7 := hby.cell 7
  have x8 := hbx.cell 8
  have y8 := hby.cell 8
  have x9 := hbx.cell 9
  have y9 := hby.cell 9
  have x10 := hbx.cell 10
  have y10 := hby.cell 10
  have x11 := hbx.cell 11
  have y11 := hby.cell 11
  have x12 := hbx.cell 12
  have y12 := hby.cell 12
  have x13 := hbx.cell 13
  have y13 := hby.cell 13
  have x14 := hbx.cell 14
  have y14 := hby.cell 14
  have HB := Lib.hid (And.intro hB (And.intro hbx hby))
  have HZ : Hid (eqM x y = (Sr.same x.id y.id && (x.kind == y.kind) && (x.priority == y.priority) && Sr.same x.group y.group && Sr.same x.code y.code && (x.closes == y.closes) && eqS x.scope y.scope && (x.least == y.least) && (x.rate == y.rate) && (x.amount == y.amount) && (x.buy == y.buy) && (x.get == y.get) && eqL eqT x.parts y.parts && eqL Tir.sameB x.tiers y.tiers)) := Lib.hid rfl
  have hs0 : (x.id.toList == y.id.toList) = Sr.same x.id y.id := rfl
  have hs3 : (x.group.toList == y.group.toList) = Sr.same x.group y.group := rfl
  have hs4 : (x.code.toList == y.code.toList) = Sr.same x.code y.code := rfl
  obtain ⟨v0, hv0⟩ : ∃ b, Sr.same x.id y.id = b := ⟨_, rfl⟩
  obtain ⟨v1, hv1⟩ : ∃ b, (x.kind == y.kind) = b := ⟨_, rfl⟩
  obtain ⟨v2, hv2⟩ : ∃ b, (x.priority == y.priority) = b := ⟨_, rfl⟩
  obtain ⟨v3, hv3⟩ : ∃ b, Sr.same x.group y.group = b := ⟨_, rfl⟩
  obtain ⟨v4, hv4⟩ : ∃ b, Sr.same x.code y.code = b := ⟨_, rfl⟩
  obtain ⟨v5, hv5⟩ : ∃ b, (x.closes == y.closes) = b := ⟨_, rfl⟩
  obtain ⟨v6, hv6⟩ : ∃ b, eqS x.scope y.scope = b := ⟨_, rfl⟩
  obtain ⟨v7, hv7⟩ : ∃ b, (x.least == y.least) = b := ⟨_, rfl⟩
  obtain ⟨v8, hv8⟩ : ∃ b, (x.rate == y.rate) = b := ⟨_, rfl⟩
  obtain ⟨v9, hv9⟩ : ∃ b, (x.amount == y.amount) = b := ⟨_, rfl⟩
  obtain ⟨v10, hv10⟩ : ∃ b, (x.buy == y.buy) = b := ⟨_, rfl⟩
  obtain ⟨v11, hv11⟩ : ∃ b, (x.get == y.get) = b := ⟨_, rfl⟩
  obtain ⟨v12, hv12⟩ : ∃ b, eqL eqT x.parts y.parts = b := ⟨_, rfl⟩
  obtain ⟨v13, hv13⟩ : ∃ b, eqL Tir.sameB x.tiers y.tiers = b := ⟨_, rfl⟩
  rw [hv0] at hs0
  rw [hv3] at hs3
  rw [hv4] at hs4
  simp only [hv6] at HO6
  simp only [hv12] at HO12
  simp only [hv13] at HO13
  rw [hv0, hv1, hv2, hv3, hv4, hv5, hv6, hv7, hv8, hv9, hv10, hv11, hv12, hv13] at HZ
  clear hv0 hv3 hv4 hv6 hv12 hv13 hx hy hF hbx hby hB
  go_enter Tryz.func59, Tryz.ntmps59
  cases v0 with
  | false =>
    go_wp2
    go_ret
    exact ⟨by rw [HZ.out]; rfl, HB.out.1⟩
  | true =>
    cases v1 with
    | false =>
      go_wp2
      go_ret
      exact ⟨by rw [HZ.out]; rfl, HB.out.1⟩
    | true =>
      cases v2 with
      | false =>
        go_wp2
        go_ret
        exact ⟨by rw [HZ.out]; rfl, HB.out.1⟩
      | true =>
        cases v3 with
        | false =>
          go_wp2
          go_ret
          exact ⟨by rw [HZ.out]; rfl, HB.out.1⟩
        | true =>
          cases v4 with
          | false =>
            go_wp2
            go_ret
            exact ⟨by rw [HZ.out]; rfl, HB.out.1⟩
          | true =>
            cases v5 with
            | false =>
              go_wp2
              go_ret
              exact ⟨by rw [HZ.out]; rfl, HB.out.1⟩
            | true =>
              go_wp2_with fail
              refine (HO6.out _ (Below.refl _ _)).mono ?_
              rintro e wz6 ⟨rfl, hz6⟩
              have x0 := (HB.out.2.1.below hz6).cell 0
              have y0 := (HB.out.2.2.below hz6).cell 0
              have x1 := (HB.out.2.1.below hz6).cell 1
              have y1 := (HB.out.2.2.below hz6).cell 1
              have x2 := (HB.out.2.1.below hz6).cell 2
              have y2 := (HB.out.2.2.below hz6).cell 2
              have x3 := (HB.out.2.1.below hz6).cell 3
              have y3 := (HB.out.2.2.below hz6).cell 3
              have x4 := (HB.out.2.1.below hz6).cell 4
              have y4 := (HB.out.2.2.below hz6).cell 4
              have x5 := (HB.out.2.1.below hz6).cell 5
              have y5 := (HB.out.2.2.below hz6).cell 5
              have x6 := (HB.out.2.1.below hz6).cell 6
              have y6 := (HB.out.2.2.below hz6).cell 6
              have x7 := (HB.out.2.1.below hz6).cell 7
              have y7 := (HB.out.2.2.below hz6).cell 7
              have x8 := (HB.out.2.1.below hz6).cell 8
              have y8 := (HB.out.2.2.below hz6).cell 8
              have x9 := (HB.out.2.1.below hz6).cell 9
              have y9 := (HB.out.2.2.below hz6).cell 9
              have x10 := (HB.out.2.1.below hz6).cell 10
              have y10 := (HB.out.2.2.below hz6).cell 10
              have x11 := (HB.out.2.1.below hz6).cell 11
              have y11 := (HB.out.2.2.below hz6).cell 11
              have x12 := (HB.out.2.1.below hz6).cell 12
              have y12 := (HB.out.2.2.below hz6).cell 12
              have x13 := (HB.out.2.1.below hz6).cell 13
              have y13 := (HB.out.2.2.below hz6).cell 13
              have x14 := (HB.out.2.1.below hz6).cell 14
              have y14 := (HB.out.2.2.below hz6).cell 14
              cases v6 with
              | false =>
                go_wp2
                go_ret
                exact ⟨by rw [HZ.out]; rfl, HB.out.1.trans (hz6.mono HB.out.1.size)⟩
              | true =>
                cases v7 with
                | false =>
                  go_wp2
                  go_ret
                  exact ⟨by rw [HZ.out]; rfl, HB.out.1.trans (hz6.mono HB.out.1.size)⟩
                | true =>
                  cases v8 with
                  | false =>
                    go_wp2
                    go_ret
                    exact ⟨by rw [HZ.out]; rfl, HB.out.1.trans (hz6.mono HB.out.1.size)⟩
                  | true =>
                    cases v9 with
                    | false =>
                      go_wp2
                      go_ret
                      exact ⟨by rw [HZ.out]; rfl, HB.out.1.trans (hz6.mono HB.out.1.size)⟩
                    | true =>
                      cases v10 with
                      | false =>
                        go_wp2
                        go_ret
                        exact ⟨by rw [HZ.out]; rfl, HB.out.1.trans (hz6.mono HB.out.1.size)⟩
                      | true =>
                        cases v11 with
                        | false =>
                          go_wp2
                          go_ret
                          exact ⟨by rw [HZ.out]; rfl, HB.out.1.trans (hz6.mono HB.out.1.size)⟩
                        | true =>
                          go_wp2_with fail
                          refine (HO12.out _ hz6).mono ?_
                          rintro e wz12 ⟨rfl, hz12⟩
                          have x0 := (HB.out.2.1.below hz12).cell 0
                          have y0 := (HB.out.2.2.below hz12).cell 0
                          have x1 := (HB.out.2.1.below hz12).cell 1
                          have y1 := (HB.out.2.2.below hz12).cell 1
                          have x2 := (HB.out.2.1.below hz12).cell 2
                          have y2 := (HB.out.2.2.below hz12).cell 2
                          have x3 := (HB.out.2.1.below hz12).cell 3
                          have y3 := (HB.out.2.2.below hz12).cell 3
                          have x4 := (HB.out.2.1.below hz12).cell 4
                          have y4 := (HB.out.2.2.below hz12).cell 4
                          have x5 := (HB.out.2.1.below hz12).cell 5
                          have y5 := (HB.out.2.2.below hz12).cell 5
                          have x6 := (HB.out.2.1.below hz12).cell 6
                          have y6 := (HB.out.2.2.below hz12).cell 6
                          have x7 := (HB.out.2.1.below hz12).cell 7
                          have y7 := (HB.out.2.2.below hz12).cell 7
                          have x8 := (HB.out.2.1.below hz12).cell 8
                          have y8 := (HB.out.2.2.below hz12).cell 8
                          have x9 := (HB.out.2.1.below hz12).cell 9
                          have y9 := (HB.out.2.2.below hz12).cell 9
                          have x10 := (HB.out.2.1.below hz12).cell 10
                          have y10 := (HB.out.2.2.below hz12).cell 10
                          have x11 := (HB.out.2.1.below hz12).cell 11
                          have y11 := (HB.out.2.2.below hz12).cell 11
                          have x12 := (HB.out.2.1.below hz12).cell 12
                          have y12 := (HB.out.2.2.below hz12).cell 12
                          have x13 := (HB.out.2.1.below hz12).cell 13
                          have y13 := (HB.out.2.2.below hz12).cell 13
                          have x14 := (HB.out.2.1.below hz12).cell 14
                          have y14 := (HB.out.2.2.below hz12).cell 14
                          cases v12 with
                          | false =>
                            go_wp2
                            go_ret
                            exact ⟨by rw [HZ.out]; rfl, HB.out.1.trans (hz12.mono HB.out.1.size)⟩
                          | true =>
                            go_wp2_with fail
                            refine (HO13.out _ hz12).mono ?_
                            rintro e wz13 ⟨rfl, hz13⟩
                            go_wp2
                            go_ret
                            exact ⟨by rw [HZ.out]; rfl, HB.out.1.trans (hz13.mono HB.out.1.size)⟩
end Go.Proofs.YtfcmhgneijipgaaGreat.Ru

end
