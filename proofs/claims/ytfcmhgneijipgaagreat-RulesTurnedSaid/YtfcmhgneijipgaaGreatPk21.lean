/- The statements' helpers on api.CatRate: Same, Plain, Own, Kept. · The statements' help on zones: two of them, two lists of them. · The statements' helps on taxes, policies, scopes. (made by wip/gen-eq.py) -/
import Derived.Deep.RegionHeld3
import Derived.Laws.StructEq
import Derived.Test.YtfcmhgneijipgaaGreatPk1
import Derived.Test.YtfcmhgneijipgaaGreatPk19
import Derived.Test.YtfcmhgneijipgaaGreatPk2

section
set_option maxRecDepth 100000
set_option linter.unusedVariables false
namespace Go.Proofs.YtfcmhgneijipgaaGreat.Ap.CtR
open Go.ChangeShapes Go.WideShapes Go.ChangeAt Go.RowKit
open Kd (Kind Row Own Cells Reads Fields Fit Agree kInt kStr kFlag kPair kVia Filling Owned eqL eqL_len eqL_no eqL_yes eqL_refl Two rows_get)
def sameB (x y : CtR) : Bool := Sr.same x.cat y.cat && (x.rate == y.rate)
theorem sameB_refl (x : CtR) : sameB x x = true := by
  unfold sameB
  simp [Sr.same_refl]
set_option maxHeartbeats 1000000 in
theorem eq_any (x y : CtR) (w : World) : Calls Tryz.prog 122 #[.agg #[.string x.cat, .int .i64 x.rate], .agg #[.string y.cat, .int .i64 y.rate]] w fun e w' => e = .returned (.bool (sameB x y)) ∧ Below w.heap.size w w' := by
  have hd : sameB x y = ((x.cat.toList == y.cat.toList) && (x.rate == y.rate)) := rfl
  have HD := Lib.hid hd
  have HB : Hid (∀ o p, Below w.heap.size w ((w.alloc o).alloc p)) := Lib.hid fun o p => ((Below.refl _ _).alloc (Nat.le_refl _) _).alloc (by simp) _
  clear hd
  go_enter Tryz.func122, Tryz.ntmps122
  go_wp2
  all_goals (go_ret; refine ⟨?_, HB.out _ _⟩; rw [HD.out]; simp [*])
set_option maxHeartbeats 1000000 in
theorem same_any (A C : Option Addr) (n m ca cc : Nat) (xs ys : List CtR) (F : Nat → Prop) (w : World) (ha : Row kCtR w F A n xs) (hc : Row kCtR w F C m ys) (hF : ∀ b, F b → b < w.heap.size) (hn : n ≤ 9223372036854775807) :
    Calls Tryz.prog 121 #[.slice A n ca, .slice C m cc, .func (.func 122) #[] #[]] w fun e w' => e = .returned (.bool (eqL sameB xs ys)) ∧ Below w.heap.size w w' := by
  have hl := ha.len
  have hl2 := hc.len
  have HL := Lib.hid (And.intro hl hl2)
  have HF := Lib.hid hF
  by_cases hnm : n = m
  · subst hnm
    have b0 : ((n : Int) != (n : Int)) = false := by simp
    have HT0 := Lib.hid (Two.mk ha hc (Below.refl w.heap.size w))
    clear ha hc hl hl2 hF
    go_enter Tryz.func121, Tryz.ntmps121
    go_wp2
    go_loopw [7] (fun s wr => ∃ k : Nat, s = .int .i64 k ∧ k ≤ n ∧ Hid (Two kCtR w wr F A C n n xs ys) ∧ Hid (∀ (j : Nat) (x y : CtR), j < k → xs[j]? = some x → ys[j]? = some y → sameB x y = true)) (fun s _ => n - (intOf s).toNat)
    case atStart => exact ⟨0, rfl, by omega, HT0, Lib.hid fun j x y hj => by omega⟩
    case round =>
      clear HT0
      obtain ⟨k, rfl, hk, HT, HE⟩ := hrel
      by_cases hlt : k < n
      · obtain ⟨x, y, hx, hy⟩ := rows_get HT.out.a HT.out.c hlt
        obtain ⟨g, o, rfl, hg1, hg2, _, a0, a1⟩ := row_CtR HT.out.a hx
        obtain ⟨g', o', rfl, hg3, hg4, _, d0, d1⟩ := row_CtR HT.out.c hy
        have k0 : (0 : Int) ≤ (k : Int) := by omega
        have k1 : (k : Int) < (n : Int) := by omega
        have HXY := Lib.hid (And.intro hx hy)
        have HO : Hid (∀ W, Below wr.heap.size wr W → Calls Tryz.prog 122 #[.agg #[.string x.cat, .int .i64 x.rate], .agg #[.string y.cat, .int .i64 y.rate]] W fun e w' => e = .returned (.bool (sameB x y)) ∧ Below wr.heap.size wr w') := Lib.hid fun W hW => (eq_any x y W).mono fun e w' h => ⟨h.1, Hk.andThen hW h.2⟩
        have c0 : ∀ u, Below wr.heap.size wr u → u.cell? ⟨g, o + k * 2, none⟩ = some (.string x.cat) := fun u hu => (hu.cell (p := ⟨g, _, none⟩) hg2).trans a0
        have c1 : ∀ u, Below wr.heap.size wr u → u.cell? ⟨g, o + k * 2 + 1, none⟩ = some (.int .i64 x.rate) := fun u hu => (hu.cell (p := ⟨g, _, none⟩) hg2).trans a1
        have e0 : ∀ u, Below wr.heap.size wr u → u.cell? ⟨g', o' + k * 2, none⟩ = some (.string y.cat) := fun u hu => (hu.cell (p := ⟨g', _, none⟩) hg4).trans d0
        have e1 : ∀ u, Below wr.heap.size wr u → u.cell? ⟨g', o' + k * 2 + 1, none⟩ = some (.int .i64 y.rate) := fun u hu => (hu.cell (p := ⟨g', _, none⟩) hg4).trans d1
        clear a0 a1 d0 d1 hx hy hg1 hg2 hg3 hg4
        cases hB : sameB x y with
        | true =>
          rw [hB] at HO
          have HB := Lib.hid hB
          clear hB
          go_wp2_with fail
          go_region_held3 (fun u => Below wr.heap.size wr u)
            (first
              | assumption
              | exact (Below.refl _ _).drew
              | exact Below.refl _ _)
            (first
              | (go_at_call 122; refine (HO.out _ (by first | assumption | exact (Below.refl _ _).drew)).mono ?_; rintro e wz ⟨rfl, hz⟩))
          have HT2 := Lib.hid (HT.out.on HF.out hz)
          clear hz
          go_wp2
          go_roundw
          case rel => exact ⟨k + 1, by go_num, by omega, HT2, Lib.hid fun j x' y' hj hx' hy' => by
            rcases Nat.lt_or_ge j k with h | h
            · exact HE.out j x' y' h hx' hy'
            · obtain rfl : j = k := by omega
              rw [HXY.out.1] at hx'
              rw [HXY.out.2] at hy'
              injection hx' with hx'
              injection hy' with hy'
              subst hx' hy'
              exact HB.out⟩
          case measure => simp [intOf]; omega
        | false =>
          rw [hB] at HO
          have HG := Lib.hid (eqL_no HXY.out.1 HXY.out.2 hB)
          clear hB
          go_wp2_with fail
          go_region_held3 (fun u => Below wr.heap.size wr u)
            (first
              | assumption
              | exact (Below.refl _ _).drew
              | exact Below.refl _ _)
            (first
              | (go_at_call 122; refine (HO.out _ (by first | assumption | exact (Below.refl _ _).drew)).mono ?_; rintro e wz ⟨rfl, hz⟩))
          have HT2 := Lib.hid (HT.out.on HF.out hz)
          clear hz
          go_wp2
          go_ret
          exact ⟨by rw [HG.out]; rfl, HT2.out.below⟩
      · have k1 : ¬ (k : Int) < (n : Int) := by omega
        have HG := Lib.hid (eqL_yes (eq := sameB) (HL.out.1.trans HL.out.2.symm) fun j x y hx hy => HE.out j x y (by
          have := (List.getElem?_eq_some_iff.1 hx).1
          rw [HL.out.1] at this
          omega) hx hy)
        go_wp2
        go_ret
        exact ⟨by rw [HG.out]; rfl, HT.out.below⟩
  · have b0 : ((n : Int) != (m : Int)) = true := by rw [bne_iff_ne]; omega
    have HG := Lib.hid (eqL_len (eq := sameB) (xs := xs) (ys := ys) (by omega))
    clear ha hc hl hl2 hnm hF
    go_enter Tryz.func121, Tryz.ntmps121
    go_wp2
    go_ret
    exact ⟨by rw [HG.out]; rfl, Below.refl _ _⟩
theorem plain_any (A C : Option Addr) (n m ca cc : Nat) (xs ys : List CtR) (F : Nat → Prop) (w : World) (ha : Row kCtR w F A n xs) (hc : Row kCtR w F C m ys) (hF : ∀ b, F b → b < w.heap.size) (hn : n ≤ 9223372036854775807) :
    Calls Tryz.prog 63 #[.slice A n ca, .slice C m cc] w fun e w' => e = .returned (.bool (eqL sameB xs ys)) ∧ Below w.heap.size w w' := by
  have HS := Lib.hid (same_any A C n m ca cc xs ys F w ha hc hF hn)
  clear ha hc hF
  go_enter Tryz.func63, Tryz.ntmps63
  go_wp2_with fail
  refine HS.out.mono ?_
  rintro e w1 ⟨rfl, hb⟩
  have HB := Lib.hid hb
  clear hb
  go_wp2
  go_ret
  exact ⟨rfl, HB.out⟩
theorem info_it : (Tryz.prog.info? 53).map (fun i => (i.zero, i.size, i.bytes)) = some (some (.agg #[.string ⟨#[]⟩, .int .i64 0]), 2, 24) := by kernel_rfl
theorem enc_one (x : CtR) : ∀ u ∈ x.enc, u.oneCell' = true := by
  intro u hu
  simp only [CtR.enc, List.mem_cons, List.not_mem_nil, or_false] at hu
  rcases hu with rfl | rfl <;> rfl
theorem row_t : Kd.RowT Tryz.prog kCtR 39 53 (.agg #[.string ⟨#[]⟩, .int .i64 0]) 2 24 :=
  ⟨Tryz.underlying39, info_it, rfl, rfl, by omega, fun h => by
    obtain ⟨rfl, _⟩ := CtR_rep.1 h
    exact enc_one _⟩
end Go.Proofs.YtfcmhgneijipgaaGreat.Ap.CtR

end

section
set_option maxRecDepth 100000
set_option linter.unusedVariables false
namespace Go.Proofs.YtfcmhgneijipgaaGreat.Ru
open Go.ChangeShapes Go.WideShapes Go.ChangeAt Go.RowKit
open Ap (CtR Zon kZon kCtR row_Zon)
open Kd (Row Lst Sl eqL Two rows_get eqL_no eqL_yes eqL_len Agree)
open Hp (ag_of)
theorem ag_of2 {F : Nat → Prop} {w W2 W : World} (hF : ∀ b, F b → b < w.heap.size) (h : Below w.heap.size w W2) (hW : Below W2.heap.size W2 W) : Agree F w W := fun b hb => (hW.block b (Nat.lt_of_lt_of_le (hF b hb) h.size)).trans (h.block b (hF b hb))
def eqZ (x y : Zon) : Bool := Sr.same x.name y.name && (x.rest == y.rest) && (x.ship == y.ship) && eqL CtR.sameB x.rates y.rates
set_option maxHeartbeats 2000000 in
theorem zone_same (x y : Zon) (l l' : Zon.Lay) (F : Nat → Prop) (w : World) (hx : Zon.Holds w F x l) (hy : Zon.Holds w F y l') (hF : ∀ b, F b → b < w.heap.size) (hn : x.rates.length ≤ 9223372036854775807) :
    Calls Tryz.prog 23 #[.agg #[.string x.name, .slice l.rates.A l.rates.n l.rates.c, .int .i64 x.rest, .int .i64 x.ship], .agg #[.string y.name, .slice l'.rates.A l'.rates.n l'.rates.c, .int .i64 y.rest, .int .i64 y.ship]] w fun e w' => e = .returned (.bool (eqZ x y)) ∧ Below w.heap.size w w' := by
  obtain ⟨W1, hW1⟩ : ∃ W1, w.alloc (.cells #[.string x.name, .slice l.rates.A l.rates.n l.rates.c, .int .i64 x.rest, .int .i64 x.ship] 41) = W1 := ⟨_, rfl⟩
  obtain ⟨W2, hW2⟩ : ∃ W2, W1.alloc (.cells #[.string y.name, .slice l'.rates.A l'.rates.n l'.rates.c, .int .i64 y.rest, .int .i64 y.ship] 41) = W2 := ⟨_, rfl⟩
  have hs1 : W1.heap.size = w.heap.size + 1 := by rw [← hW1]; simp
  have hB : Below w.heap.size w W2 := by rw [← hW2, ← hW1]; exact ((Below.refl _ _).alloc (Nat.le_refl _) _).alloc (by simp) _
  have hbx : Qu.Blk W2 w.heap.size 41 #[.string x.name, .slice l.rates.A l.rates.n l.rates.c, .int .i64 x.rest, .int .i64 x.ship] := by rw [← hW2, ← hW1]; exact (Qu.Blk.new w _ _).alloc _
  have hby : Qu.Blk W2 W1.heap.size 41 #[.string y.name, .slice l'.rates.A l'.rates.n l'.rates.c, .int .i64 y.rest, .int .i64 y.ship] := by rw [← hW2]; exact Qu.Blk.new W1 _ _
  have hnx : l.rates.n ≤ 9223372036854775807 := by have := hx.rates.row.len; omega
  have HO : Hid (∀ W, Below W2.heap.size W2 W → Calls Tryz.prog 63 #[.slice l.rates.A l.rates.n l.rates.c, .slice l'.rates.A l'.rates.n l'.rates.c] W fun e w' => e = .returned (.bool (eqL CtR.sameB x.rates y.rates)) ∧ Below W2.heap.size W2 w') := Lib.hid fun W hW =>
    (CtR.plain_any l.rates.A l'.rates.A l.rates.n l'.rates.n l.rates.c l'.rates.c x.rates y.rates F W (hx.rates.row.stay (ag_of2 hF hB hW)) (hy.rates.row.stay (ag_of2 hF hB hW)) (fun b hb => Nat.lt_of_lt_of_le (hF b hb) (Nat.le_trans hB.size hW.size)) hnx).mono fun e w' he => ⟨he.1, Hk.andThen hW he.2⟩
  have x0 := hbx.cell 0
  have y0 := hby.cell 0
  have x1 := hbx.cell 1
  have y1 := hby.cell 1
  have x2 := hbx.cell 2
  have y2 := hby.cell 2
  have x3 := hbx.cell 3
  have y3 := hby.cell 3
  have HB := Lib.hid hB
  have hs : (x.name.toList == y.name.toList) = Sr.same x.name y.name := rfl
  have HZ : Hid (eqZ x y = (Sr.same x.name y.name && (x.rest == y.rest) && (x.ship == y.ship) && eqL CtR.sameB x.rates y.rates)) := Lib.hid rfl
  obtain ⟨v1, hv1⟩ : ∃ b, Sr.same x.name y.name = b := ⟨_, rfl⟩
  obtain ⟨v2, hv2⟩ : ∃ b, (x.rest == y.rest) = b := ⟨_, rfl⟩
  obtain ⟨v3, hv3⟩ : ∃ b, (x.ship == y.ship) = b := ⟨_, rfl⟩
  obtain ⟨v4, hv4⟩ : ∃ b, eqL CtR.sameB x.rates y.rates = b := ⟨_, rfl⟩
  rw [hv1] at hs
  rw [hv1, hv2, hv3, hv4] at HZ
  simp only [hv4] at HO
  clear hv1 hv4 hx hy hF hn hnx hbx hby hB hs1
  go_enter Tryz.func23, Tryz.ntmps23
  cases v1 with
  | false =>
    go_wp2
    go_ret
    exact ⟨by rw [HZ.out]; rfl, HB.out⟩
  | true =>
    cases v2 with
    | false =>
      go_wp2
      go_ret
      exact ⟨by rw [HZ.out]; rfl, HB.out⟩
    | true =>
      cases v3 with
      | false =>
        go_wp2
        go_ret
        exact ⟨by rw [HZ.out]; rfl, HB.out⟩
      | true =>
        go_wp2_with fail
        refine (HO.out _ (Below.refl _ _)).mono ?_
        rintro e wz ⟨rfl, hz⟩
        go_wp2
        go_ret
        exact ⟨by rw [HZ.out]; rfl, HB.out.trans (hz.mono HB.out.size)⟩
theorem zon_on {w W : World} {F : Nat → Prop} {x : Zon} {l : Zon.Lay} (h : Zon.Holds w F x l) (ha : Agree F w W) : Zon.Holds W F x l := ⟨h.name, ⟨h.rates.row.stay ha, h.rates.fit⟩, h.rest, h.ship⟩
set_option maxHeartbeats 1000000 in
theorem same_zones (A C : Option Addr) (n m ca cc : Nat) (xs ys : List Zon) (F : Nat → Prop) (w : World) (ha : Row kZon w F A n xs) (hc : Row kZon w F C m ys) (hF : ∀ b, F b → b < w.heap.size) (hn : n ≤ 9223372036854775807) (hsm : ∀ x ∈ xs, x.rates.length ≤ 9223372036854775807) :
    Calls Tryz.prog 119 #[.slice A n ca, .slice C m cc, .func (.func 23) #[] #[]] w fun e w' => e = .returned (.bool (eqL eqZ xs ys)) ∧ Below w.heap.size w w' := by
  have hl := ha.len
  have hl2 := hc.len
  have HL := Lib.hid (And.intro hl hl2)
  have HF := Lib.hid hF
  have HSM := Lib.hid hsm
  by_cases hnm : n = m
  · subst hnm
    have b0 : ((n : Int) != (n : Int)) = false := by simp
    have HT0 := Lib.hid (Two.mk ha hc (Below.refl w.heap.size w))
    clear ha hc hl hl2 hF
    go_enter Tryz.func119, Tryz.ntmps119
    go_wp2
    go_loopw [7] (fun s wr => ∃ k : Nat, s = .int .i64 k ∧ k ≤ n ∧ Hid (Two kZon w wr F A C n n xs ys) ∧ Hid (∀ (j : Nat) (x y : Zon), j < k → xs[j]? = some x → ys[j]? = some y → eqZ x y = true)) (fun s _ => n - (intOf s).toNat)
    case atStart => exact ⟨0, rfl, by omega, HT0, Lib.hid fun j x y hj => by omega⟩
    case round =>
      clear HT0
      obtain ⟨k, rfl, hk, HT, HE⟩ := hrel
      by_cases hlt : k < n
      · obtain ⟨x, y, hx, hy⟩ := rows_get HT.out.a HT.out.c hlt
        obtain ⟨g, o, l, rfl, hg1, hg2, hx1, a0, a1, a2, a3⟩ := row_Zon HT.out.a hx
        obtain ⟨g', o', l', rfl, hg3, hg4, hy1, d0, d1, d2, d3⟩ := row_Zon HT.out.c hy
        have k0 : (0 : Int) ≤ (k : Int) := by omega
        have k1 : (k : Int) < (n : Int) := by omega
        have HXY := Lib.hid (And.intro hx hy)
        have HO : Hid (∀ W, Below wr.heap.size wr W → Calls Tryz.prog 23 #[.agg #[.string x.name, .slice l.rates.A l.rates.n l.rates.c, .int .i64 x.rest, .int .i64 x.ship], .agg #[.string y.name, .slice l'.rates.A l'.rates.n l'.rates.c, .int .i64 y.rest, .int .i64 y.ship]] W fun e w' => e = .returned (.bool (eqZ x y)) ∧ Below wr.heap.size wr w') := Lib.hid fun W hW => (zone_same x y l l' F W (zon_on hx1 (ag_of HF.out HT.out.below hW)) (zon_on hy1 (ag_of HF.out HT.out.below hW)) (fun b hb => Nat.lt_of_lt_of_le (HF.out b hb) (Nat.le_trans HT.out.below.size hW.size)) (HSM.out x (List.mem_of_getElem? hx))).mono fun e w' he => ⟨he.1, Hk.andThen hW he.2⟩
        have c0 : ∀ u, Below wr.heap.size wr u → u.cell? ⟨g, o + k * 4, none⟩ = some (.string x.name) := fun u hu => (hu.cell (p := ⟨g, _, none⟩) hg2).trans a0
        have c1 : ∀ u, Below wr.heap.size wr u → u.cell? ⟨g, o + k * 4 + 1, none⟩ = some (.slice l.rates.A l.rates.n l.rates.c) := fun u hu => (hu.cell (p := ⟨g, _, none⟩) hg2).trans a1
        have c2 : ∀ u, Below wr.heap.size wr u → u.cell? ⟨g, o + k * 4 + 2, none⟩ = some (.int .i64 x.rest) := fun u hu => (hu.cell (p := ⟨g, _, none⟩) hg2).trans a2
        have c3 : ∀ u, Below wr.heap.size wr u → u.cell? ⟨g, o + k * 4 + 3, none⟩ = some (.int .i64 x.ship) := fun u hu => (hu.cell (p := ⟨g, _, none⟩) hg2).trans a3
        have e0 : ∀ u, Below wr.heap.size wr u → u.cell? ⟨g', o' + k * 4, none⟩ = some (.string y.name) := fun u hu => (hu.cell (p := ⟨g', _, none⟩) hg4).trans d0
        have e1 : ∀ u, Below wr.heap.size wr u → u.cell? ⟨g', o' + k * 4 + 1, none⟩ = some (.slice l'.rates.A l'.rates.n l'.rates.c) := fun u hu => (hu.cell (p := ⟨g', _, none⟩) hg4).trans d1
        have e2 : ∀ u, Below wr.heap.size wr u → u.cell? ⟨g', o' + k * 4 + 2, none⟩ = some (.int .i64 y.rest) := fun u hu => (hu.cell (p := ⟨g', _, none⟩) hg4).trans d2
        have e3 : ∀ u, Below wr.heap.size wr u → u.cell? ⟨g', o' + k * 4 + 3, none⟩ = some (.int .i64 y.ship) := fun u hu => (hu.cell (p := ⟨g', _, none⟩) hg4).trans d3
        clear a0 a1 a2 a3 d0 d1 d2 d3 hx hy hg1 hg2 hg3 hg4 hx1 hy1
        cases hB : eqZ x y with
        | true =>
          rw [hB] at HO
          have HB := Lib.hid hB
          clear hB
          go_wp2_with fail
          go_region_held3 (fun u => Below wr.heap.size wr u)
            (first
              | assumption
              | exact (Below.refl _ _).drew
              | exact Below.refl _ _)
            (first
              | (go_at_call 23; refine (HO.out _ (by first | assumption | exact (Below.refl _ _).drew)).mono ?_; rintro e wz ⟨rfl, hz⟩))
          have HT2 := Lib.hid (HT.out.on HF.out hz)
          clear hz
          go_wp2
          go_roundw
          case rel => exact ⟨k + 1, by go_num, by omega, HT2, Lib.hid fun j x' y' hj hx' hy' => by
            rcases Nat.lt_or_ge j k with h | h
            · exact HE.out j x' y' h hx' hy'
            · obtain rfl : j = k := by omega
              rw [HXY.out.1] at hx'
              rw [HXY.out.2] at hy'
              injection hx' with hx'
              injection hy' with hy'
              subst hx' hy'
              exact HB.out⟩
          case measure => simp [intOf]; omega
        | false =>
          rw [hB] at HO
          have HG := Lib.hid (eqL_no HXY.out.1 HXY.out.2 hB)
          clear hB
          go_wp2_with fail
          go_region_held3 (fun u => Below wr.heap.size wr u)
            (first
              | assumption
              | exact (Below.refl _ _).drew
              | exact Below.refl _ _)
            (first
              | (go_at_call 23; refine (HO.out _ (by first | assumption | exact (Below.refl _ _).drew)).mono ?_; rintro e wz ⟨rfl, hz⟩))
          have HT2 := Lib.hid (HT.out.on HF.out hz)
          clear hz
          go_wp2
          go_ret
          exact ⟨by rw [HG.out]; rfl, HT2.out.below⟩
      · have k1 : ¬ (k : Int) < (n : Int) := by omega
        have HG := Lib.hid (eqL_yes (eq := eqZ) (HL.out.1.trans HL.out.2.symm) fun j x y hx hy => HE.out j x y (by
          have := (List.getElem?_eq_some_iff.1 hx).1
          rw [HL.out.1] at this
          omega) hx hy)
        go_wp2
        go_ret
        exact ⟨by rw [HG.out]; rfl, HT.out.below⟩
  · have b0 : ((n : Int) != (m : Int)) = true := by rw [bne_iff_ne]; omega
    have HG := Lib.hid (eqL_len (eq := eqZ) (xs := xs) (ys := ys) (by omega))
    clear ha hc hl hl2 hnm hF
    go_enter Tryz.func119, Tryz.ntmps119
    go_wp2
    go_ret
    exact ⟨by rw [HG.out]; rfl, Below.refl _ _⟩
end Go.Proofs.YtfcmhgneijipgaaGreat.Ru

end

section
set_option maxRecDepth 100000
set_option linter.unusedVariables false
namespace Go.Proofs.YtfcmhgneijipgaaGreat.Ru
open Go.ChangeShapes Go.WideShapes Go.ChangeAt Go.RowKit
open Ap (CtR Zon Txs Pol Scp)
open Kd (Row Lst Sl eqL Agree)
open Hp (plain_int plain_str eqI)
def eqX (x y : Txs) : Bool := (x.incl == y.incl) && (x.byOrder == y.byOrder) && (x.round == y.round) && eqL eqZ x.zones y.zones
set_option maxHeartbeats 4000000 in
theorem tax_same (x y : Txs) (l l' : Txs.Lay) (F : Nat → Prop) (w : World) (hx : Txs.Holds w F x l) (hy : Txs.Holds w F y l') (hF : ∀ b, F b → b < w.heap.size) (hn : x.zones.length ≤ 9223372036854775807) (hS : ∀ z ∈ x.zones, z.rates.length ≤ 9223372036854775807) :
    Calls Tryz.prog 60 #[.agg #[.bool x.incl, .bool x.byOrder, .int .i64 x.round, (.slice l.zones.A l.zones.n l.zones.c)], .agg #[.bool y.incl, .bool y.byOrder, .int .i64 y.round, (.slice l'.zones.A l'.zones.n l'.zones.c)]] w fun e w' => e = .returned (.bool (eqX x y)) ∧ Below w.heap.size w w' := by
  obtain ⟨W1, hW1⟩ : ∃ W1, w.alloc (.cells #[.bool x.incl, .bool x.byOrder, .int .i64 x.round, (.slice l.zones.A l.zones.n l.zones.c)] 26) = W1 := ⟨_, rfl⟩
  obtain ⟨W2, hW2⟩ : ∃ W2, W1.alloc (.cells #[.bool y.incl, .bool y.byOrder, .int .i64 y.round, (.slice l'.zones.A l'.zones.n l'.zones.c)] 26) = W2 := ⟨_, rfl⟩
  have hB : Below w.heap.size w W2 := by rw [← hW2, ← hW1]; exact ((Below.refl _ _).alloc (Nat.le_refl _) _).alloc (by simp) _
  have hbx : Qu.Blk W2 w.heap.size 26 #[.bool x.incl, .bool x.byOrder, .int .i64 x.round, (.slice l.zones.A l.zones.n l.zones.c)] := by rw [← hW2, ← hW1]; exact (Qu.Blk.new w _ _).alloc _
  have hby : Qu.Blk W2 W1.heap.size 26 #[.bool y.incl, .bool y.byOrder, .int .i64 y.round, (.slice l'.zones.A l'.zones.n l'.zones.c)] := by rw [← hW2]; exact Qu.Blk.new W1 _ _
  have HO3 : Hid (∀ W, Below W2.heap.size W2 W → Calls Tryz.prog 119 #[.slice l.zones.A l.zones.n l.zones.c, .slice l'.zones.A l'.zones.n l'.zones.c, .func (.func 23) #[] #[]] W fun e w' => e = .returned (.bool (eqL eqZ x.zones y.zones)) ∧ Below W2.heap.size W2 w') := Lib.hid fun W hW =>
    (same_zones l.zones.A l'.zones.A l.zones.n l'.zones.n l.zones.c l'.zones.c x.zones y.zones F W (hx.zones.row.stay (ag_of2 hF hB hW)) (hy.zones.row.stay (ag_of2 hF hB hW)) (fun b hb => Nat.lt_of_lt_of_le (hF b hb) (Nat.le_trans hB.size hW.size)) (by have := hx.zones.row.len; omega) hS).mono fun e w' he => ⟨he.1, Hk.andThen hW he.2⟩
  have x0 := hbx.cell 0
  have y0 := hby.cell 0
  have x1 := hbx.cell 1
  have y1 := hby.cell 1
  have x2 := hbx.cell 2
  have y2 := hby.cell 2
  have x3 := hbx.cell 3
  have y3 := hby.cell 3
  have HB := Lib.hid (And.intro hB (And.intro hbx hby))
  have HZ : Hid (eqX x y = ((x.incl == y.incl) && (x.byOrder == y.byOrder) && (x.round == y.round) && eqL eqZ x.zones y.zones)) := Lib.hid rfl
  obtain ⟨v0, hv0⟩ : ∃ b, (x.incl == y.incl) = b := ⟨_, rfl⟩
  obtain ⟨v1, hv1⟩ : ∃ b, (x.byOrder == y.byOrder) = b := ⟨_, rfl⟩
  obtain ⟨v2, hv2⟩ : ∃ b, (x.round == y.round) = b := ⟨_, rfl⟩
  obtain ⟨v3, hv3⟩ : ∃ b, eqL eqZ x.zones y.zones = b := ⟨_, rfl⟩
  simp only [hv3] at HO3
  rw [hv0, hv1, hv2, hv3] at HZ
  clear hv3 hx hy hF hbx hby hB
  go_enter Tryz.func60, Tryz.ntmps60
  cases v0 with
  | false =>
    go_wp2
    go_ret
    exact ⟨by rw [HZ.out]; rfl, HB.out.1⟩
  | true =>
    cases v1 with
    | false =>
      go_wp2
      go_ret
      exact ⟨by rw [HZ.out]; rfl, HB.out.1⟩
    | true =>
      cases v2 with
      | false =>
        go_wp2
        go_ret
        exact ⟨by rw [HZ.out]; rfl, HB.out.1⟩
      | true =>
        go_wp2_with fail
        refine (HO3.out _ (Below.refl _ _)).mono ?_
        rintro e wz3 ⟨rfl, hz3⟩
        go_wp2
        go_ret
        exact ⟨by rw [HZ.out]; rfl, HB.out.1.trans (hz3.mono HB.out.1.size)⟩
def eqP (x y : Pol) : Bool := (x.window == y.window) && (x.grace == y.grace) && (x.mode == y.mode) && (x.restock == y.restock) && eqL eqI x.order y.order && eqL eqI x.credit y.credit
set_option maxHeartbeats 4000000 in
theorem policy_same (x y : Pol) (l l' : Pol.Lay) (F : Nat → Prop) (w : World) (hx : Pol.Holds w F x l) (hy : Pol.Holds w F y l') (hF : ∀ b, F b → b < w.heap.size) (hn : x.order.length ≤ 9223372036854775807) (hn2 : x.credit.length ≤ 9223372036854775807) :
    Calls Tryz.prog 61 #[.agg #[.int .i64 x.window, .int .i64 x.grace, .int .i64 x.mode, .int .i64 x.restock, (.slice l.order.A l.order.n l.order.c), (.slice l.credit.A l.credit.n l.credit.c)], .agg #[.int .i64 y.window, .int .i64 y.grace, .int .i64 y.mode, .int .i64 y.restock, (.slice l'.order.A l'.order.n l'.order.c), (.slice l'.credit.A l'.credit.n l'.credit.c)]] w fun e w' => e = .returned (.bool (eqP x y)) ∧ Below w.heap.size w w' := by
  obtain ⟨W1, hW1⟩ : ∃ W1, w.alloc (.cells #[.int .i64 x.window, .int .i64 x.grace, .int .i64 x.mode, .int .i64 x.restock, (.slice l.order.A l.order.n l.order.c), (.slice l.credit.A l.credit.n l.credit.c)] 31) = W1 := ⟨_, rfl⟩
  obtain ⟨W2, hW2⟩ : ∃ W2, W1.alloc (.cells #[.int .i64 y.window, .int .i64 y.grace, .int .i64 y.mode, .int .i64 y.restock, (.slice l'.order.A l'.order.n l'.order.c), (.slice l'.credit.A l'.credit.n l'.credit.c)] 31) = W2 := ⟨_, rfl⟩
  have hB : Below w.heap.size w W2 := by rw [← hW2, ← hW1]; exact ((Below.refl _ _).alloc (Nat.le_refl _) _).alloc (by simp) _
  have hbx : Qu.Blk W2 w.heap.size 31 #[.int .i64 x.window, .int .i64 x.grace, .int .i64 x.mode, .int .i64 x.restock, (.slice l.order.A l.order.n l.order.c), (.slice l.credit.A l.credit.n l.credit.c)] := by rw [← hW2, ← hW1]; exact (Qu.Blk.new w _ _).alloc _
  have hby : Qu.Blk W2 W1.heap.size 31 #[.int .i64 y.window, .int .i64 y.grace, .int .i64 y.mode, .int .i64 y.restock, (.slice l'.order.A l'.order.n l'.order.c), (.slice l'.credit.A l'.credit.n l'.credit.c)] := by rw [← hW2]; exact Qu.Blk.new W1 _ _
  have HO4 : Hid (∀ W, Below W2.heap.size W2 W → Calls Tryz.prog 120 #[.slice l.order.A l.order.n l.order.c, .slice l'.order.A l'.order.n l'.order.c] W fun e w' => e = .returned (.bool (eqL eqI x.order y.order)) ∧ Below W2.heap.size W2 w') := Lib.hid fun W hW =>
    (plain_int l.order.A l'.order.A l.order.n l'.order.n l.order.c l'.order.c x.order y.order F W (hx.order.row.stay (ag_of2 hF hB hW)) (hy.order.row.stay (ag_of2 hF hB hW)) (fun b hb => Nat.lt_of_lt_of_le (hF b hb) (Nat.le_trans hB.size hW.size)) (by have := hx.order.row.len; omega)).mono fun e w' he => ⟨he.1, Hk.andThen hW he.2⟩
  have HO5 : Hid (∀ W, Below W2.heap.size W2 W → Calls Tryz.prog 120 #[.slice l.credit.A l.credit.n l.credit.c, .slice l'.credit.A l'.credit.n l'.credit.c] W fun e w' => e = .returned (.bool (eqL eqI x.credit y.credit)) ∧ Below W2.heap.size W2 w') := Lib.hid fun W hW =>
    (plain_int l.credit.A l'.credit.A l.credit.n l'.credit.n l.credit.c l'.credit.c x.credit y.credit F W (hx.credit.row.stay (ag_of2 hF hB hW)) (hy.credit.row.stay (ag_of2 hF hB hW)) (fun b hb => Nat.lt_of_lt_of_le (hF b hb) (Nat.le_trans hB.size hW.size)) (by have := hx.credit.row.len; omega)).mono fun e w' he => ⟨he.1, Hk.andThen hW he.2⟩
  have x0 := hbx.cell 0
  have y0 := hby.cell 0
  have x1 := hbx.cell 1
  have y1 := hby.cell 1
  have x2 := hbx.cell 2
  have y2 := hby.cell 2
  have x3 := hbx.cell 3
  have y3 := hby.cell 3
  have x4 := hbx.cell 4
  have y4 := hby.cell 4
  have x5 := hbx.cell 5
  have y5 := hby.cell 5
  have HB := Lib.hid (And.intro hB (And.intro hbx hby))
  have HZ : Hid (eqP x y = ((x.window == y.window) && (x.grace == y.grace) && (x.mode == y.mode) && (x.restock == y.restock) && eqL eqI x.order y.order && eqL eqI x.credit y.credit)) := Lib.hid rfl
  obtain ⟨v0, hv0⟩ : ∃ b, (x.window == y.window) = b := ⟨_, rfl⟩
  obtain ⟨v1, hv1⟩ : ∃ b, (x.grace == y.grace) = b := ⟨_, rfl⟩
  obtain ⟨v2, hv2⟩ : ∃ b, (x.mode == y.mode) = b := ⟨_, rfl⟩
  obtain ⟨v3, hv3⟩ : ∃ b, (x.restock == y.restock) = b := ⟨_, rfl⟩
  obtain ⟨v4, hv4⟩ : ∃ b, eqL eqI x.order y.order = b := ⟨_, rfl⟩
  obtain ⟨v5, hv5⟩ : ∃ b, eqL eqI x.credit y.credit = b := ⟨_, rfl⟩
  simp only [hv4] at HO4
  simp only [hv5] at HO5
  rw [hv0, hv1, hv2, hv3, hv4, hv5] at HZ
  clear hv4 hv5 hx hy hF hbx hby hB
  go_enter Tryz.func61, Tryz.ntmps61
  cases v0 with
  | false =>
    go_wp2
    go_ret
    exact ⟨by rw [HZ.out]; rfl, HB.out.1⟩
  | true =>
    cases v1 with
    | false =>
      go_wp2
      go_ret
      exact ⟨by rw [HZ.out]; rfl, HB.out.1⟩
    | true =>
      cases v2 with
      | false =>
        go_wp2
        go_ret
        exact ⟨by rw [HZ.out]; rfl, HB.out.1⟩
      | true =>
        cases v3 with
        | false =>
          go_wp2
          go_ret
          exact ⟨by rw [HZ.out]; rfl, HB.out.1⟩
        | true =>
          go_wp2_with fail
          refine (HO4.out _ (Below.refl _ _)).mono ?_
          rintro e wz4 ⟨rfl, hz4⟩
          have x0 := (HB.out.2.1.below hz4).cell 0
          have y0 := (HB.out.2.2.below hz4).cell 0
          have x1 := (HB.out.2.1.below hz4).cell 1
          have y1 := (HB.out.2.2.below hz4).cell 1
          have x2 := (HB.out.2.1.below hz4).cell 2
          have y2 := (HB.out.2.2.below hz4).cell 2
          have x3 := (HB.out.2.1.below hz4).cell 3
          have y3 := (HB.out.2.2.below hz4).cell 3
          have x4 := (HB.out.2.1.below hz4).cell 4
          have y4 := (HB.out.2.2.below hz4).cell 4
          have x5 := (HB.out.2.1.below hz4).cell 5
          have y5 := (HB.out.2.2.below hz4).cell 5
          cases v4 with
          | false =>
            go_wp2
            go_ret
            exact ⟨by rw [HZ.out]; rfl, HB.out.1.trans (hz4.mono HB.out.1.size)⟩
          | true =>
            go_wp2_with fail
            refine (HO5.out _ hz4).mono ?_
            rintro e wz5 ⟨rfl, hz5⟩
            go_wp2
            go_ret
            exact ⟨by rw [HZ.out]; rfl, HB.out.1.trans (hz5.mono HB.out.1.size)⟩
def eqS (x y : Scp) : Bool := eqL Sr.same x.skus y.skus && eqL Sr.same x.cats y.cats
set_option maxHeartbeats 4000000 in
theorem scope_same (x y : Scp) (l l' : Scp.Lay) (F : Nat → Prop) (w : World) (hx : Scp.Holds w F x l) (hy : Scp.Holds w F y l') (hF : ∀ b, F b → b < w.heap.size) (hn : x.skus.length ≤ 9223372036854775807) (hn2 : x.cats.length ≤ 9223372036854775807) :
    Calls Tryz.prog 115 #[.agg #[(.slice l.skus.A l.skus.n l.skus.c), (.slice l.cats.A l.cats.n l.cats.c)], .agg #[(.slice l'.skus.A l'.skus.n l'.skus.c), (.slice l'.cats.A l'.cats.n l'.cats.c)]] w fun e w' => e = .returned (.bool (eqS x y)) ∧ Below w.heap.size w w' := by
  obtain ⟨W1, hW1⟩ : ∃ W1, w.alloc (.cells #[(.slice l.skus.A l.skus.n l.skus.c), (.slice l.cats.A l.cats.n l.cats.c)] 47) = W1 := ⟨_, rfl⟩
  obtain ⟨W2, hW2⟩ : ∃ W2, W1.alloc (.cells #[(.slice l'.skus.A l'.skus.n l'.skus.c), (.slice l'.cats.A l'.cats.n l'.cats.c)] 47) = W2 := ⟨_, rfl⟩
  have hB : Below w.heap.size w W2 := by rw [← hW2, ← hW1]; exact ((Below.refl _ _).alloc (Nat.le_refl _) _).alloc (by simp) _
  have hbx : Qu.Blk W2 w.heap.size 47 #[(.slice l.skus.A l.skus.n l.skus.c), (.slice l.cats.A l.cats.n l.cats.c)] := by rw [← hW2, ← hW1]; exact (Qu.Blk.new w _ _).alloc _
  have hby : Qu.Blk W2 W1.heap.size 47 #[(.slice l'.skus.A l'.skus.n l'.skus.c), (.slice l'.cats.A l'.cats.n l'.cats.c)] := by rw [← hW2]; exact Qu.Blk.new W1 _ _
  have HO0 : Hid (∀ W, Below W2.heap.size W2 W → Calls Tryz.prog 145 #[.slice l.skus.A l.skus.n l.skus.c, .slice l'.skus.A l'.skus.n l'.skus.c] W fun e w' => e = .returned (.bool (eqL Sr.same x.skus y.skus)) ∧ Below W2.heap.size W2 w') := Lib.hid fun W hW =>
    (plain_str l.skus.A l'.skus.A l.skus.n l'.skus.n l.skus.c l'.skus.c x.skus y.skus F W (hx.skus.row.stay (ag_of2 hF hB hW)) (hy.skus.row.stay (ag_of2 hF hB hW)) (fun b hb => Nat.lt_of_lt_of_le (hF b hb) (Nat.le_trans hB.size hW.size)) (by have := hx.skus.row.len; omega)).mono fun e w' he => ⟨he.1, Hk.andThen hW he.2⟩
  have HO1 : Hid (∀ W, Below W2.heap.size W2 W → Calls Tryz.prog 145 #[.slice l.cats.A l.cats.n l.cats.c, .slice l'.cats.A l'.cats.n l'.cats.c] W fun e w' => e = .returned (.bool (eqL Sr.same x.cats y.cats)) ∧ Below W2.heap.size W2 w') := Lib.hid fun W hW =>
    (plain_str l.cats.A l'.cats.A l.cats.n l'.cats.n l.cats.c l'.cats.c x.cats y.cats F W (hx.cats.row.stay (ag_of2 hF hB hW)) (hy.cats.row.stay (ag_of2 hF hB hW)) (fun b hb => Nat.lt_of_lt_of_le (hF b hb) (Nat.le_trans hB.size hW.size)) (by have := hx.cats.row.len; omega)).mono fun e w' he => ⟨he.1, Hk.andThen hW he.2⟩
  have x0 := hbx.cell 0
  have y0 := hby.cell 0
  have x1 := hbx.cell 1
  have y1 := hby.cell 1
  have HB := Lib.hid (And.intro hB (And.intro hbx hby))
  have HZ : Hid (eqS x y = (eqL Sr.same x.skus y.skus && eqL Sr.same x.cats y.cats)) := Lib.hid rfl
  obtain ⟨v0, hv0⟩ : ∃ b, eqL Sr.same x.skus y.skus = b := ⟨_, rfl⟩
  obtain ⟨v1, hv1⟩ : ∃ b, eqL Sr.same x.cats y.cats = b := ⟨_, rfl⟩
  simp only [hv0] at HO0
  simp only [hv1] at HO1
  rw [hv0, hv1] at HZ
  clear hv0 hv1 hx hy hF hbx hby hB
  go_enter Tryz.func115, Tryz.ntmps115
  go_wp2_with fail
  refine (HO0.out _ (Below.refl _ _)).mono ?_
  rintro e wz0 ⟨rfl, hz0⟩
  have x0 := (HB.out.2.1.below hz0).cell 0
  have y0 := (HB.out.2.2.below hz0).cell 0
  have x1 := (HB.out.2.1.below hz0).cell 1
  have y1 := (HB.out.2.2.below hz0).cell 1
  cases v0 with
  | false =>
    go_wp2
    go_ret
    exact ⟨by rw [HZ.out]; rfl, HB.out.1.trans (hz0.mono HB.out.1.size)⟩
  | true =>
    go_wp2_with fail
    refine (HO1.out _ hz0).mono ?_
    rintro e wz1 ⟨rfl, hz1⟩
    go_wp2
    go_ret
    exact ⟨by rw [HZ.out]; rfl, HB.out.1.trans (hz1.mono HB.out.1.size)⟩
end Go.Proofs.YtfcmhgneijipgaaGreat.Ru

end
