/- Law 13's few, and the statements' Few. (made by wip/gen-law13a.py) · The document's Index. · The statements' Scope may be. · The statements' tiers: some that may be. -/
import Derived.Deep.CutBlock
import Derived.Deep.DeepCutAuto
import Derived.Deep.LoopGhost
import Derived.Deep.RegionHeld3
import Derived.IntWalk
import Derived.Test.YtfcmhgneijipgaaGreatPk1
import Derived.Test.YtfcmhgneijipgaaGreatPk2
import Derived.Test.YtfcmhgneijipgaaGreatPk20
import Derived.Test.YtfcmhgneijipgaaGreatPk23
import Derived.Test.YtfcmhgneijipgaaGreatPk29
import Derived.Test.YtfcmhgneijipgaaGreatPk3
import Derived.Test.YtfcmhgneijipgaaGreatPk9

section
set_option maxRecDepth 100000
set_option linter.unusedVariables false
namespace Go.Proofs.YtfcmhgneijipgaaGreat.Ru
open Go.ChangeShapes Go.WideShapes Go.ChangeAt Go.RowKit
open Ap (CtR Zon Txs Shp Pol Rls Prm Prt kCtR kZon kPrm kPrt row_CtR row_Zon row_Prm)
open Kd (Row Lst Sl Fit Agree kInt row_int)
structure FewP (p : Prm) : Prop where
  parts : p.parts.length ≤ 20
  tiers : p.tiers.length ≤ 20
  skus : p.scope.skus.length ≤ 40
  cats : p.scope.cats.length ≤ 40
structure FewR (r : Rls) : Prop where
  promos : ∀ (k : Nat) (p : Prm), r.promos[k]? = some p → FewP p
  rates : ∀ (k : Nat) (z : Zon), r.tax.zones[k]? = some z → z.rates.length ≤ 60
  items : r.items.length < 60
  np : r.promos.length < 30
  nz : r.tax.zones.length < 30
  order : r.policy.order.length < 30
  credit : r.policy.credit.length < 30
theorem lst_max {α : Type} {K : Kd.Kind α} {w : World} {F : Nat → Prop} {s : Sl} {xs : List α} (h : Lst K w F s xs) : xs.length ≤ 9223372036854775807 := by
  have h1 := h.row.len
  have h2 := h.fit.2
  omega
theorem prm_there {w : World} {F : Nat → Prop} {A : Option Addr} {n : Nat} {xs : List Prm} (h : Row kPrm w F A n xs) {k : Nat} {p : Prm} (hk : xs[k]? = some p) : ∃ l, Ap.Prm.Holds w F p l := by
  obtain ⟨g, o, cs, _, _, _, hr, _⟩ := h.each k p hk
  obtain ⟨l, _, hh⟩ := Ap.Prm_rep.1 hr
  exact ⟨l, hh⟩
theorem prt_there {w : World} {F : Nat → Prop} {A : Option Addr} {n : Nat} {xs : List Prt} (h : Row kPrt w F A n xs) {k : Nat} {p : Prt} (hk : xs[k]? = some p) : ∃ l, Ap.Prt.Holds w F p l := by
  obtain ⟨g, o, cs, _, _, _, hr, _⟩ := h.each k p hk
  obtain ⟨l, _, hh⟩ := Ap.Prt_rep.1 hr
  exact ⟨l, hh⟩
theorem parts_there {w : World} {F : Nat → Prop} {p : Prm} {l : Prm.Lay} (h : Ap.Prm.Holds w F p l) : Pr.PartsSmall p.parts := fun k q hq => by
  obtain ⟨m, hm⟩ := prt_there h.parts.row hq
  exact ⟨lst_max hm.scope.skus, lst_max hm.scope.cats⟩
theorem FewR.small {r : Rls} {w : World} {F : Nat → Prop} {l : Rls.Lay} (h : FewR r) (hh : Rls.Holds w F r l) : RulesSmall r ∧ SmallR r := by
  have hi := h.items
  have hp := h.np
  have hz := h.nz
  have ho := h.order
  have hc := h.credit
  have hs : Pm.Slights r.promos := fun k p hk => by
    obtain ⟨m, hm⟩ := prm_there hh.promos.row hk
    have f := h.promos k p hk
    have f1 := f.parts
    have f2 := f.tiers
    have f3 := f.skus
    have f4 := f.cats
    exact ⟨by omega, by omega, parts_there hm, by omega, by omega⟩
  refine ⟨⟨by omega, ⟨hs, by omega⟩, ⟨fun k z hk => by have := h.rates k z hk; omega, by omega⟩, by omega, by omega⟩, by omega, by omega, fun p hp => ?_, by omega, fun z hz => ?_, by omega, by omega⟩
  · obtain ⟨k, hk⟩ := List.mem_iff_getElem?.1 hp
    have f := h.promos k p hk
    have f1 := f.parts
    have f2 := f.tiers
    have f3 := f.skus
    have f4 := f.cats
    obtain ⟨m, hm⟩ := prm_there hh.promos.row hk
    exact ⟨⟨by omega, by omega⟩, by omega, fun z hz => by
      obtain ⟨j, hj⟩ := List.mem_iff_getElem?.1 hz
      exact parts_there hm j z hj, by omega⟩
  · obtain ⟨k, hk⟩ := List.mem_iff_getElem?.1 hz
    have := h.rates k z hk
    omega
set_option maxHeartbeats 4000000 in
theorem pfew_any (x : Rls) (l : Rls.Lay) (w : World) (hh : Rls.Holds w (· < w.heap.size) x l) :
    Calls Tryz.prog 26 #[.agg #[.slice l.items.A l.items.n l.items.c, .slice l.promos.A l.promos.n l.promos.c, .bool x.tax.incl, .bool x.tax.byOrder, .int .i64 x.tax.round, .slice l.tax.zones.A l.tax.zones.n l.tax.zones.c, .int .i64 x.ship.fee, .int .i64 x.ship.free, .int .i64 x.policy.window, .int .i64 x.policy.grace, .int .i64 x.policy.mode, .int .i64 x.policy.restock, .slice l.policy.order.A l.policy.order.n l.policy.order.c, .slice l.policy.credit.A l.policy.credit.n l.policy.credit.c]] w fun e w' => e = .returned (.bool (decide (x.items.length < 60) && decide (x.promos.length < 30) && decide (x.tax.zones.length < 30) && decide (x.policy.order.length < 30) && decide (x.policy.credit.length < 30))) ∧ Below w.heap.size w w' := by
  obtain ⟨W1, hW1⟩ : ∃ W1, w.alloc (.cells #[.slice l.items.A l.items.n l.items.c, .slice l.promos.A l.promos.n l.promos.c, .bool x.tax.incl, .bool x.tax.byOrder, .int .i64 x.tax.round, .slice l.tax.zones.A l.tax.zones.n l.tax.zones.c, .int .i64 x.ship.fee, .int .i64 x.ship.free, .int .i64 x.policy.window, .int .i64 x.policy.grace, .int .i64 x.policy.mode, .int .i64 x.policy.restock, .slice l.policy.order.A l.policy.order.n l.policy.order.c, .slice l.policy.credit.A l.policy.credit.n l.policy.credit.c] 33) = W1 := ⟨_, rfl⟩
  have hB : Below w.heap.size w W1 := by rw [← hW1]; exact (Below.refl _ _).alloc (Nat.le_refl _) _
  have hbx : Qu.Blk W1 w.heap.size 33 #[.slice l.items.A l.items.n l.items.c, .slice l.promos.A l.promos.n l.promos.c, .bool x.tax.incl, .bool x.tax.byOrder, .int .i64 x.tax.round, .slice l.tax.zones.A l.tax.zones.n l.tax.zones.c, .int .i64 x.ship.fee, .int .i64 x.ship.free, .int .i64 x.policy.window, .int .i64 x.policy.grace, .int .i64 x.policy.mode, .int .i64 x.policy.restock, .slice l.policy.order.A l.policy.order.n l.policy.order.c, .slice l.policy.credit.A l.policy.credit.n l.policy.credit.c] := by rw [← hW1]; exact Qu.Blk.new w _ _
  have x0 := hbx.cell 0
  have x1 := hbx.cell 1
  have x2 := hbx.cell 2
  have x3 := hbx.cell 3
  have x4 := hbx.cell 4
  have x5 := hbx.cell 5
  have x6 := hbx.cell 6
  have x7 := hbx.cell 7
  have x8 := hbx.cell 8
  have x9 := hbx.cell 9
  have x10 := hbx.cell 10
  have x11 := hbx.cell 11
  have x12 := hbx.cell 12
  have x13 := hbx.cell 13
  have HB := Lib.hid (And.intro hB hbx)
  have HZ : Hid ((decide (x.items.length < 60) && decide (x.promos.length < 30) && decide (x.tax.zones.length < 30) && decide (x.policy.order.length < 30) && decide (x.policy.credit.length < 30)) = (decide (l.items.n < 60) && decide (l.promos.n < 30) && decide (l.tax.zones.n < 30) && decide (l.policy.order.n < 30) && decide (l.policy.credit.n < 30))) := Lib.hid (by rw [hh.items.row.len, hh.promos.row.len, hh.tax.zones.row.len, hh.policy.order.row.len, hh.policy.credit.row.len])
  obtain ⟨v0, hv0⟩ : ∃ b, (decide (l.items.n < 60)) = b := ⟨_, rfl⟩
  simp only [hv0] at HZ
  obtain ⟨v1, hv1⟩ : ∃ b, (decide (l.promos.n < 30)) = b := ⟨_, rfl⟩
  simp only [hv1] at HZ
  obtain ⟨v2, hv2⟩ : ∃ b, (decide (l.tax.zones.n < 30)) = b := ⟨_, rfl⟩
  simp only [hv2] at HZ
  obtain ⟨v3, hv3⟩ : ∃ b, (decide (l.policy.order.n < 30)) = b := ⟨_, rfl⟩
  simp only [hv3] at HZ
  obtain ⟨v4, hv4⟩ : ∃ b, (decide (l.policy.credit.n < 30)) = b := ⟨_, rfl⟩
  simp only [hv4] at HZ
  clear  hbx hB hh
  go_enter Tryz.func26, Tryz.ntmps26
  cases v0 with
  | false =>
    have q0 : ¬ (l.items.n : Int) < (60 : Int) := by have := of_decide_eq_false hv0; omega
    go_wp2
    go_ret
    exact ⟨by rw [HZ.out]; rfl, HB.out.1⟩
  | true =>
    have q0 : (l.items.n : Int) < (60 : Int) := by have := of_decide_eq_true hv0; omega
    cases v1 with
    | false =>
      have q1 : ¬ (l.promos.n : Int) < (30 : Int) := by have := of_decide_eq_false hv1; omega
      go_wp2
      go_ret
      exact ⟨by rw [HZ.out]; rfl, HB.out.1⟩
    | true =>
      have q1 : (l.promos.n : Int) < (30 : Int) := by have := of_decide_eq_true hv1; omega
      cases v2 with
      | false =>
        have q2 : ¬ (l.tax.zones.n : Int) < (30 : Int) := by have := of_decide_eq_false hv2; omega
        go_wp2
        go_ret
        exact ⟨by rw [HZ.out]; rfl, HB.out.1⟩
      | true =>
        have q2 : (l.tax.zones.n : Int) < (30 : Int) := by have := of_decide_eq_true hv2; omega
        cases v3 with
        | false =>
          have q3 : ¬ (l.policy.order.n : Int) < (30 : Int) := by have := of_decide_eq_false hv3; omega
          go_wp2
          go_ret
          exact ⟨by rw [HZ.out]; rfl, HB.out.1⟩
        | true =>
          have q3 : (l.policy.order.n : Int) < (30 : Int) := by have := of_decide_eq_true hv3; omega
          cases v4 with
          | false =>
            have q4 : ¬ (l.policy.credit.n : Int) < (30 : Int) := by have := of_decide_eq_false hv4; omega
            go_wp2
            go_ret
            exact ⟨by rw [HZ.out]; rfl, HB.out.1⟩
          | true =>
            have q4 : (l.policy.credit.n : Int) < (30 : Int) := by have := of_decide_eq_true hv4; omega
            go_wp2
            go_ret
            exact ⟨by rw [HZ.out]; rfl, HB.out.1⟩
def FewedR (x : Rls) (w : World) (e : Ending) (w' : World) : Prop := ∃ b : Bool, e = .returned (.bool b) ∧ (b = true → FewR x) ∧ Below w.heap.size w w'
set_option maxHeartbeats 8000000 in
theorem few_any (x : Rls) (l : Rls.Lay) (w : World) (hh : Rls.Holds w (· < w.heap.size) x l) :
    Calls Tryz.prog 8 #[.agg #[.slice l.items.A l.items.n l.items.c, .slice l.promos.A l.promos.n l.promos.c, .bool x.tax.incl, .bool x.tax.byOrder, .int .i64 x.tax.round, .slice l.tax.zones.A l.tax.zones.n l.tax.zones.c, .int .i64 x.ship.fee, .int .i64 x.ship.free, .int .i64 x.policy.window, .int .i64 x.policy.grace, .int .i64 x.policy.mode, .int .i64 x.policy.restock, .slice l.policy.order.A l.policy.order.n l.policy.order.c, .slice l.policy.credit.A l.policy.credit.n l.policy.credit.c]] w fun e w' => FewedR x w e w' := by
  obtain ⟨W1, hW1⟩ : ∃ W1, w.alloc (.cells #[.slice l.items.A l.items.n l.items.c, .slice l.promos.A l.promos.n l.promos.c, .bool x.tax.incl, .bool x.tax.byOrder, .int .i64 x.tax.round, .slice l.tax.zones.A l.tax.zones.n l.tax.zones.c, .int .i64 x.ship.fee, .int .i64 x.ship.free, .int .i64 x.policy.window, .int .i64 x.policy.grace, .int .i64 x.policy.mode, .int .i64 x.policy.restock, .slice l.policy.order.A l.policy.order.n l.policy.order.c, .slice l.policy.credit.A l.policy.credit.n l.policy.credit.c] 33) = W1 := ⟨_, rfl⟩
  have hB : Below w.heap.size w W1 := by rw [← hW1]; exact (Below.refl _ _).alloc (Nat.le_refl _) _
  have hs1 : w.heap.size < W1.heap.size := by rw [← hW1]; simp
  have hbx : Qu.Blk W1 w.heap.size 33 #[.slice l.items.A l.items.n l.items.c, .slice l.promos.A l.promos.n l.promos.c, .bool x.tax.incl, .bool x.tax.byOrder, .int .i64 x.tax.round, .slice l.tax.zones.A l.tax.zones.n l.tax.zones.c, .int .i64 x.ship.fee, .int .i64 x.ship.free, .int .i64 x.policy.window, .int .i64 x.policy.grace, .int .i64 x.policy.mode, .int .i64 x.policy.restock, .slice l.policy.order.A l.policy.order.n l.policy.order.c, .slice l.policy.credit.A l.policy.credit.n l.policy.credit.c] := by rw [← hW1]; exact Qu.Blk.new w _ _
  have HH := Lib.hid (rules_later hh hB)
  have HF := Lib.hid (And.intro hh.promos.fit.2 hh.tax.zones.fit.2)
  have HL := Lib.hid (And.intro hh.promos.row.len hh.tax.zones.row.len)
  have HP := Lib.hid (fun W (hW : Below W1.heap.size W1 W) => pfew_any x l W (rules_later hh (hB.trans (hW.mono hB.size))))
  have HB := Lib.hid (And.intro hB (And.intro hbx hs1))
  have x1 := hbx.cell 1
  obtain ⟨n, hn⟩ : ∃ n, l.promos.n = n := ⟨_, rfl⟩
  obtain ⟨m, hm⟩ : ∃ m, l.tax.zones.n = m := ⟨_, rfl⟩
  have hn2 : n ≤ 9223372036854775807 := by have := HF.out.1; omega
  have hm2 : m ≤ 9223372036854775807 := by have := HF.out.2; omega
  have HN := Lib.hid (And.intro hn hm)
  clear hh hB hs1 hbx hn hm
  go_enter Tryz.func8, Tryz.ntmps8
  go_wp2
  clear hW1 x1
  go_loopw [3] (fun s3 wr => ∃ k : Nat, s3 = .int .i64 k ∧ k ≤ n ∧ Hid (Below W1.heap.size W1 wr ∧ ∀ (j : Nat) (p : Prm), j < k → x.promos[j]? = some p → FewP p)) (fun s3 _ => n - (intOf s3).toNat)
  case atStart => exact ⟨0, rfl, by omega, Lib.hid ⟨Below.refl _ _, fun j p hj => by omega⟩⟩
  case round =>
    obtain ⟨k, rfl, hk, HK⟩ := hrel
    have k0 : (0 : Int) ≤ (k : Int) := by omega
    have x1 := (HB.out.2.1.below HK.out.1).cell 1
    have HBw : Hid (Below w.heap.size w wr) := Lib.hid (HB.out.1.trans (HK.out.1.mono (Nat.le_of_lt HB.out.2.2)))
    by_cases hlt : k < n
    · have k1 : (k : Int) < (l.promos.n : Int) := by have := HN.out.1; omega
      obtain ⟨p, hx⟩ := HH.out.promos.row.get (k := k) (by have := HN.out.1; omega)
      obtain ⟨g, o, lp, hA, _, hgl, hok, c0, c1, c2, c3, c4, c5, c6, c7, c8, c9, c10, c11, c12, c13, c14⟩ := row_Prm (HH.out.promos.row.below HK.out.1 (Nat.le_refl _)) hx
      rw [hA] at x1
      obtain ⟨W3, hW3⟩ : ∃ W3, wr.alloc (.cells #[.string p.id, .int .i64 p.kind, .int .i64 p.priority, .string p.group, .string p.code, .bool p.closes, .slice lp.scope.skus.A lp.scope.skus.n lp.scope.skus.c, .slice lp.scope.cats.A lp.scope.cats.n lp.scope.cats.c, .int .i64 p.least, .int .i64 p.rate, .int .i64 p.amount, .int .i64 p.buy, .int .i64 p.get, .slice lp.parts.A lp.parts.n lp.parts.c, .slice lp.tiers.A lp.tiers.n lp.tiers.c] 51) = W3 := ⟨_, rfl⟩
      have hb3 : Below wr.heap.size wr W3 := by rw [← hW3]; exact (Below.refl _ _).alloc (Nat.le_refl _) _
      have hbp : Qu.Blk W3 wr.heap.size 51 #[.string p.id, .int .i64 p.kind, .int .i64 p.priority, .string p.group, .string p.code, .bool p.closes, .slice lp.scope.skus.A lp.scope.skus.n lp.scope.skus.c, .slice lp.scope.cats.A lp.scope.cats.n lp.scope.cats.c, .int .i64 p.least, .int .i64 p.rate, .int .i64 p.amount, .int .i64 p.buy, .int .i64 p.get, .slice lp.parts.A lp.parts.n lp.parts.c, .slice lp.tiers.A lp.tiers.n lp.tiers.c] := by rw [← hW3]; exact Qu.Blk.new wr _ _
      have y6 := hbp.cell 6
      have y7 := hbp.cell 7
      have y13 := hbp.cell 13
      have y14 := hbp.cell 14
      have HB3 : Hid (Below W1.heap.size W1 W3) := Lib.hid (HK.out.1.trans (hb3.mono HK.out.1.size))
      have HBw : Hid (Below w.heap.size w W3) := Lib.hid (HBw.out.trans (hb3.mono HBw.out.size))
      have HX := Lib.hid hx
      have HLp := Lib.hid (And.intro hok.parts.row.len (And.intro hok.tiers.row.len (And.intro hok.scope.skus.row.len hok.scope.cats.row.len)))
      clear hx hok hb3 hbp hgl
      by_cases t0 : 20 < lp.parts.n
      · have u0 : (20 : Int) < (lp.parts.n : Int) := by omega
        go_wp2
        go_ret
        exact ⟨false, rfl, (fun h => nomatch h), HBw.out⟩
      · have u0 : ¬ (20 : Int) < (lp.parts.n : Int) := by omega
        by_cases t1 : 20 < lp.tiers.n
        · have u1 : (20 : Int) < (lp.tiers.n : Int) := by omega
          go_wp2
          go_ret
          exact ⟨false, rfl, (fun h => nomatch h), HBw.out⟩
        · have u1 : ¬ (20 : Int) < (lp.tiers.n : Int) := by omega
          by_cases t2 : 40 < lp.scope.skus.n
          · have u2 : (40 : Int) < (lp.scope.skus.n : Int) := by omega
            go_wp2
            go_ret
            exact ⟨false, rfl, (fun h => nomatch h), HBw.out⟩
          · have u2 : ¬ (40 : Int) < (lp.scope.skus.n : Int) := by omega
            by_cases t3 : 40 < lp.scope.cats.n
            · have u3 : (40 : Int) < (lp.scope.cats.n : Int) := by omega
              go_wp2
              go_ret
              exact ⟨false, rfl, (fun h => nomatch h), HBw.out⟩
            · have u3 : ¬ (40 : Int) < (lp.scope.cats.n : Int) := by omega
              have HK2 : Hid (∀ (j : Nat) (p : Prm), j < k + 1 → x.promos[j]? = some p → FewP p) := Lib.hid fun j y hj hy => by
                rcases Nat.lt_or_ge j k with h1 | h1
                · exact HK.out.2 j y h1 hy
                · obtain rfl : j = k := by omega
                  rw [HX.out] at hy
                  injection hy with hy
                  subst hy
                  exact ⟨by have := HLp.out.1; omega, by have := HLp.out.2.1; omega, by have := HLp.out.2.2.1; omega, by have := HLp.out.2.2.2; omega⟩
              go_wp2
              go_roundw
              case rel => exact ⟨k + 1, by go_num, by omega, Lib.hid ⟨HB3.out, HK2.out⟩⟩
              case measure => simp [intOf]; omega
    · have k1 : ¬ (k : Int) < (l.promos.n : Int) := by have := HN.out.1; omega
      have HPs : Hid (∀ (j : Nat) (p : Prm), x.promos[j]? = some p → FewP p) := Lib.hid fun j p hp => HK.out.2 j p (by have := (List.getElem?_eq_some_iff.1 hp).1; have := HL.out.1; have := HN.out.1; omega) hp
      have HKb := Lib.hid HK.out.1
      clear HK HBw
      obtain ⟨wo, hwo⟩ : ∃ wo : World, wo = wr := ⟨_, rfl⟩
      subst hwo
      go_wp2
      go_loopw [5] (fun s5 wr => ∃ j : Nat, s5 = .int .i64 j ∧ j ≤ m ∧ wr = wo ∧ Hid (∀ (i : Nat) (z : Zon), i < j → x.tax.zones[i]? = some z → z.rates.length ≤ 60)) (fun s5 _ => m - (intOf s5).toNat)
      case atStart => exact ⟨0, rfl, by omega, by trivial, Lib.hid fun i z hi => by omega⟩
      case round =>
        obtain ⟨j, rfl, hj, rfl, HZ⟩ := hrel
        have j0 : (0 : Int) ≤ (j : Int) := by omega
        have x5 := (HB.out.2.1.below HKb.out).cell 5
        have HBw : Hid (Below w.heap.size w wr) := Lib.hid (HB.out.1.trans (HKb.out.mono (Nat.le_of_lt HB.out.2.2)))
        by_cases hjl : j < m
        · have j1 : (j : Int) < (l.tax.zones.n : Int) := by have := HN.out.2; omega
          obtain ⟨z, hz⟩ := HH.out.tax.zones.row.get (k := j) (by have := HN.out.2; omega)
          obtain ⟨g, o, lz, hA, _, hgl, hok, a0, a1, a2, a3⟩ := row_Zon (HH.out.tax.zones.row.below HKb.out (Nat.le_refl _)) hz
          rw [hA] at x5
          have HX := Lib.hid hz
          have HLz := Lib.hid hok.rates.row.len
          clear hz hok hgl
          by_cases t0 : 60 < lz.rates.n
          · have u0 : (60 : Int) < (lz.rates.n : Int) := by omega
            go_wp2
            go_ret
            exact ⟨false, rfl, (fun h => nomatch h), HBw.out⟩
          · have u0 : ¬ (60 : Int) < (lz.rates.n : Int) := by omega
            have ud0 : decide ((60 : Int) < (lz.rates.n : Int)) = false := decide_eq_false u0
            have un0 : decide (60 < lz.rates.n) = false := decide_eq_false t0
            have HZ2 : Hid (∀ (i : Nat) (z : Zon), i < j + 1 → x.tax.zones[i]? = some z → z.rates.length ≤ 60) := Lib.hid fun i y hi hy => by
              rcases Nat.lt_or_ge i j with h1 | h1
              · exact HZ.out i y h1 hy
              · obtain rfl : i = j := by omega
                rw [HX.out] at hy
                injection hy with hy
                subst hy
                have := HLz.out
                omega
            go_wp2
            go_roundw
            case rel => exact ⟨j + 1, by go_num, by omega, by trivial, HZ2⟩
            case measure => simp [intOf]; omega
        · have j1 : ¬ (j : Int) < (l.tax.zones.n : Int) := by have := HN.out.2; omega
          have HZs : Hid (∀ (i : Nat) (z : Zon), x.tax.zones[i]? = some z → z.rates.length ≤ 60) := Lib.hid fun i z hz => HZ.out i z (by have := (List.getElem?_eq_some_iff.1 hz).1; have := HL.out.2; have := HN.out.2; omega) hz
          have HC := Lib.hid (HP.out wr HKb.out)
          have x0 := (HB.out.2.1.below HKb.out).cell 0
          have x1 := (HB.out.2.1.below HKb.out).cell 1
          have x2 := (HB.out.2.1.below HKb.out).cell 2
          have x3 := (HB.out.2.1.below HKb.out).cell 3
          have x4 := (HB.out.2.1.below HKb.out).cell 4
          have x5 := (HB.out.2.1.below HKb.out).cell 5
          have x6 := (HB.out.2.1.below HKb.out).cell 6
          have x7 := (HB.out.2.1.below HKb.out).cell 7
          have x8 := (HB.out.2.1.below HKb.out).cell 8
          have x9 := (HB.out.2.1.below HKb.out).cell 9
          have x10 := (HB.out.2.1.below HKb.out).cell 10
          have x11 := (HB.out.2.1.below HKb.out).cell 11
          have x12 := (HB.out.2.1.below HKb.out).cell 12
          have x13 := (HB.out.2.1.below HKb.out).cell 13
          go_wp2_with fail
          refine HC.out.mono ?_
          rintro e w2 ⟨rfl, hb2⟩
          have HB2 := Lib.hid (HBw.out.trans (hb2.mono HBw.out.size))
          obtain ⟨b, hb⟩ : ∃ b, (decide (x.items.length < 60) && decide (x.promos.length < 30) && decide (x.tax.zones.length < 30) && decide (x.policy.order.length < 30) && decide (x.policy.credit.length < 30)) = b := ⟨_, rfl⟩
          have HG : Hid (b = true → FewR x) := Lib.hid fun e => by
            rw [e] at hb
            simp only [Bool.and_eq_true, decide_eq_true_eq] at hb
            exact ⟨HPs.out, HZs.out, hb.1.1.1.1, hb.1.1.1.2, hb.1.1.2, hb.1.2, hb.2⟩
          rw [hb]
          clear hb hb2
          go_wp2
          go_ret
          exact ⟨b, rfl, HG.out, HB2.out⟩
end Go.Proofs.YtfcmhgneijipgaaGreat.Ru

end

section
set_option maxRecDepth 100000
set_option linter.unusedVariables false
namespace Go.Proofs.YtfcmhgneijipgaaGreat.Sc
open Go.ChangeShapes Go.WideShapes Go.ChangeAt Go.RowKit
open It (Itm kItem row_item)
open Ap (Scp kScp row_Scp)
open Kd (Row Fit Lst Sl kStr kInt kList row_str Deep But Own)
theorem holds_below {w w' : World} {B M : Nat} {s : Scp} {l : Scp.Lay} (h : Scp.Holds w (· < M) s l) (hb : Below B w w') (hM : M ≤ B) : Scp.Holds w' (· < M) s l := ⟨h.skus.below hb hM, h.cats.below hb hM⟩
theorem holds_more {w : World} {F G : Nat → Prop} {s : Scp} {l : Scp.Lay} (h : Scp.Holds w F s l) (f : ∀ b, F b → G b) : Scp.Holds w G s l := ⟨h.skus.more f, h.cats.more f⟩
end Go.Proofs.YtfcmhgneijipgaaGreat.Sc

end

section
set_option maxRecDepth 100000
set_option linter.unusedVariables false
namespace Go.Proofs.YtfcmhgneijipgaaGreat.Py
open Go.ChangeShapes Go.WideShapes Go.ChangeAt Go.RowKit
open Ap (Scp)
open Sc (Names namesB namesB_yes scopeB)
theorem namesOf_at {nm : Nat → ByteArray} {l : List ByteArray} {M N k i : Nat} {x : ByteArray} (h : (namesOf nm l M N k)[i]? = some x) : ∃ a, (someTo l M N k)[i]? = some a ∧ a < k ∧ x = nm a := by
  unfold namesOf at h
  rw [List.getElem?_map] at h
  cases ha : (someTo l M N k)[i]? with
  | none => rw [ha] at h; cases h
  | some a =>
    rw [ha] at h
    exact ⟨a, rfl, someTo_low l M N k a (List.mem_of_getElem? ha), by simpa using h.symm⟩
theorem namesOf_may {nm : Nat → ByteArray} {l : List ByteArray} {M N : Nat} {m : Int} (hM : (M : Int) ≤ m) (hn : ∀ a, a < N → Sr.name (nm a) = true) (hl : ∀ a b, a < b → b < N → Sr.lt (nm a) (nm b) = true) : namesB (namesOf nm l M N N) m = true := by
  refine namesB_yes ⟨?_, ?_, ?_⟩
  · have := (someTo_len l M N N).2
    rw [namesOf_len]
    omega
  · intro i x hx
    obtain ⟨a, _, ha, rfl⟩ := namesOf_at hx
    exact hn a ha
  · intro i x y hx hy
    obtain ⟨a, h1, ha, rfl⟩ := namesOf_at hx
    obtain ⟨b, h2, hb, rfl⟩ := namesOf_at hy
    exact hl a b (someTo_rise l M N N i a b h1 h2) hb
theorem scopeOf_may (s : Scp) : scopeB (scopeOf s) = true := by
  unfold scopeB scopeOf
  rw [namesOf_may (by omega) (fun a ha => sku_name (by omega)) (fun a b hab hb => chr_lt (by omega) (by omega)), namesOf_may (by omega) (fun a ha => cat_name ha) (fun a b hab hb => chr_lt (by omega) (by omega))]
  rfl
theorem skusOf (s : Scp) : (scopeOf s).skus = namesOf skuS s.skus 3 8 8 := by simp only [scopeOf]
theorem catsOf (s : Scp) : (scopeOf s).cats = namesOf catS s.cats 2 3 3 := by simp only [scopeOf]
theorem namesOf_few (nm : Nat → ByteArray) (l : List ByteArray) (M N : Nat) : (namesOf nm l M N N).length ≤ M := by
  rw [namesOf_len]; exact (someTo_len l M N N).2
theorem scopeOf_len (s : Scp) : (scopeOf s).skus.length ≤ 3 ∧ (scopeOf s).cats.length ≤ 2 := by
  rw [skusOf, catsOf]
  exact ⟨namesOf_few _ _ _ _, namesOf_few _ _ _ _⟩
end Go.Proofs.YtfcmhgneijipgaaGreat.Py

end

section
set_option maxRecDepth 100000
set_option linter.unusedVariables false
namespace Go.Proofs.YtfcmhgneijipgaaGreat.Py
open Go.ChangeShapes Go.WideShapes Go.ChangeAt Go.RowKit
open Kd (Kind Row Own Cells Fit Agree)
open Ap (Tir kTir row_Tir Tir_rep)
open Pr (Tiers tierB inB)
structure Laid (L : List Tir) (k : Nat) (y : Int) : Prop where
  len : L.length = k
  each : ∀ (i : Nat) (t : Tir), L[i]? = some t → tierB t = true ∧ t.least < y
  rise : ∀ (i : Nat) (a b : Tir), L[i]? = some a → L[i + 1]? = some b → a.least < b.least
  low : 0 ≤ y
  high : y ≤ 5000 * k
theorem Laid.begin : Laid [] 0 0 := ⟨rfl, fun i t h => by simp at h, fun i a b h => by simp at h, by omega, by omega⟩
theorem tier_fine {d r a : Int} (h1 : 0 ≤ d) (h2 : d ≤ 10000000000000) (h3 : 0 ≤ r) (h4 : r ≤ 10000) (h5 : 1 ≤ a) (h6 : a ≤ 10000000000000) : tierB ⟨d, r, a⟩ = true := by
  unfold tierB inB
  simp [h1, h2, h3, h4, h6]
  omega
theorem Laid.next {L : List Tir} {k : Nat} {y d r a : Int} (h : Laid L k y) (hk : k ≤ 2) (hd : y ≤ d) (hd2 : d < y + 5000) (h3 : 0 ≤ r) (h4 : r ≤ 10000) (h5 : 1 ≤ a) (h6 : a ≤ 300) : Laid (L ++ [⟨d, r, a⟩]) (k + 1) (d + 1) := by
  have h0 := h.low
  have h9 := h.high
  have hget : ∀ (i : Nat) (t : Tir), (L ++ [(⟨d, r, a⟩ : Tir)])[i]? = some t → (i < k ∧ L[i]? = some t) ∨ (i = k ∧ t = ⟨d, r, a⟩) := fun i t ht => by
    have hl := (List.getElem?_eq_some_iff.1 ht).1
    rw [List.length_append, h.len, List.length_singleton] at hl
    rcases Nat.lt_or_ge i k with h1 | h1
    · rw [List.getElem?_append_left (by rw [h.len]; exact h1)] at ht
      exact .inl ⟨h1, ht⟩
    · obtain rfl : i = k := by omega
      rw [List.getElem?_append_right (by rw [h.len]; exact Nat.le_refl _), h.len, Nat.sub_self] at ht
      exact .inr ⟨rfl, by injection ht with ht; exact ht.symm⟩
  refine ⟨by rw [List.length_append, h.len]; rfl, fun i t ht => ?_, fun i b c hb hc => ?_, by omega, by omega⟩
  · rcases hget i t ht with ⟨_, h1⟩ | ⟨_, rfl⟩
    · have := h.each i t h1
      exact ⟨this.1, by omega⟩
    · exact ⟨tier_fine (by omega) (by omega) h3 h4 h5 (by omega), by show d < d + 1; omega⟩
  · rcases hget (i + 1) c hc with ⟨h1, hc1⟩ | ⟨h1, rfl⟩
    · rcases hget i b hb with ⟨_, hb1⟩ | ⟨h2, _⟩
      · exact h.rise i b c hb1 hc1
      · omega
    · rcases hget i b hb with ⟨_, hb1⟩ | ⟨h2, _⟩
      · have := (h.each i b hb1).2
        show b.least < d
        omega
      · omega
theorem Laid.tiers {L : List Tir} {k : Nat} {y : Int} (h : Laid L k y) (hk : 1 ≤ k) (hk2 : k ≤ 6) : Tiers L := ⟨fun i t ht => (h.each i t ht).1, h.rise, by rw [h.len]; exact hk, by rw [h.len]; exact hk2⟩
theorem one_tiers {s : Int} (h1 : 0 ≤ s) (h2 : s ≤ 5000) : Tiers [⟨s, 1000, 0⟩] := by
  have hget : ∀ (i : Nat) (t : Tir), ([⟨s, 1000, 0⟩] : List Tir)[i]? = some t → i = 0 ∧ t = ⟨s, 1000, 0⟩ := fun i t ht => by
    have hl := (List.getElem?_eq_some_iff.1 ht).1
    obtain rfl : i = 0 := by simpa using hl
    exact ⟨rfl, by injection ht with ht; exact ht.symm⟩
  refine ⟨fun i t ht => ?_, fun i a b ha hb => ?_, by simp, by simp⟩
  · obtain ⟨_, rfl⟩ := hget i t ht
    unfold tierB inB
    simp [h1]
    omega
  · have := (hget _ _ hb).1
    omega
def tirTo (l : List Tir) (step : Int) : Nat → List Tir × Int
  | 0 => ([], 0)
  | k + 1 => match l[k]? with
    | none => tirTo l step k
    | some t => ((tirTo l step k).1 ++ [⟨(tirTo l step k).2 + (modN t.least step : Int), (modN t.rate 4000 : Int), 1 + (modN t.amount 300 : Int)⟩], (tirTo l step k).2 + (modN t.least step : Int) + 1)
def tirOf (l : List Tir) (step : Int) : List Tir := if (tirTo l step 3).1.length = 0 then [⟨step / 2, 1000, 0⟩] else (tirTo l step 3).1
theorem tirTo_next {l : List Tir} {step y : Int} {k : Nat} {L : List Tir} {t : Tir} (h : (L, y) = tirTo l step k) (ht : l[k]? = some t) : (L ++ [(⟨y + (modN t.least step : Int), (modN t.rate 4000 : Int), 1 + (modN t.amount 300 : Int)⟩ : Tir)], y + (modN t.least step : Int) + 1) = tirTo l step (k + 1) := by
  show _ = (match l[k]? with | none => tirTo l step k | some t => ((tirTo l step k).1 ++ [(⟨(tirTo l step k).2 + (modN t.least step : Int), (modN t.rate 4000 : Int), 1 + (modN t.amount 300 : Int)⟩ : Tir)], (tirTo l step k).2 + (modN t.least step : Int) + 1))
  rw [ht, ← h]
theorem tirTo_stop (l : List Tir) (step : Int) (i : Nat) (h : l.length ≤ i) : ∀ j, tirTo l step (i + j) = tirTo l step i
  | 0 => rfl
  | j + 1 => by
    have h2 : l[i + j]? = none := List.getElem?_eq_none (by omega)
    show (match l[i + j]? with | none => tirTo l step (i + j) | some t => _) = _
    rw [h2]
    exact tirTo_stop l step i h j
theorem tirOf_is {l : List Tir} {step y : Int} {k : Nat} {L : List Tir} (h : (L, y) = tirTo l step k) (hk : k = 3 ∨ (k ≤ 3 ∧ l.length ≤ k)) (hL : 0 < L.length) : L = tirOf l step := by
  have e : tirTo l step 3 = tirTo l step k := by
    rcases hk with rfl | ⟨h1, h2⟩
    · rfl
    · have := tirTo_stop l step k h2 (3 - k)
      rw [show k + (3 - k) = 3 by omega] at this
      exact this
  unfold tirOf
  rw [e, ← h, if_neg (by show ¬ L.length = 0; omega)]
theorem tirOf_none {l : List Tir} {step : Int} (h : l.length = 0) : [(⟨step / 2, 1000, 0⟩ : Tir)] = tirOf l step := by
  have e : tirTo l step 3 = tirTo l step 0 := tirTo_stop l step 0 (by omega) 3
  unfold tirOf
  rw [e, if_pos (show (tirTo l step 0).1.length = 0 from rfl)]
def Tiered (w : World) (l : List Tir) (step : Int) (e : Ending) (w' : World) : Prop := ∃ v L, e = .returned v ∧ Tiers L ∧ L = tirOf l step ∧ Own kTir w' w.heap.size 115 (fun _ => False) v L.length L ∧ L.length ≤ 3 ∧ Below w.heap.size w w'
theorem tier_ok {d r a : Int} (h1 : 0 ≤ d) (h2 : d ≤ 10000000000000) (h3 : 0 ≤ r) (h4 : r ≤ 10000) (h5 : 0 ≤ a) (h6 : a ≤ 10000000000000) : (⟨d, r, a⟩ : Tir).ok := ⟨⟨by show _ ≤ d; omega, by show d ≤ _; omega⟩, ⟨by show _ ≤ r; omega, by show r ≤ _; omega⟩, ⟨by show _ ≤ a; omega, by show a ≤ _; omega⟩⟩
set_option maxHeartbeats 4000000 in
theorem tiers_any (A : Option Addr) (n c : Nat) (l : List Tir) (step : Int) (w : World) (h : Row kTir w (· < w.heap.size) A n l) (hn : n ≤ 1000000000000) (hs1 : 2 ≤ step) (hs2 : step ≤ 5000) :
    Calls Tryz.prog 126 #[.slice A n c, .int .i64 step] w (Tiered w l step) := by
  have HR := Lib.hid h
  have HLn := Lib.hid h.len
  obtain ⟨w1, hw1⟩ : ∃ w1, w.alloc (.cells #[] 115) = w1 := ⟨_, rfl⟩
  have HL0 : Hid (∃ L, Laid L 0 0 ∧ (L, (0 : Int)) = tirTo l step 0 ∧ Own kTir w1 w.heap.size 115 (fun _ => False) (.slice (some ⟨w.heap.size, 0, none⟩) 0 0) 0 L ∧ Below w.heap.size w w1) := Lib.hid ⟨[], Laid.begin, rfl, by
    rw [← hw1]
    exact Kd.own_blk (cs := []) (Qu.Blk.new w _ _) (Nat.le_refl _) rfl rfl (Nat.le_refl _) (by unfold maxLen; omega) rfl rfl, by rw [← hw1]; exact (Below.refl _ _).alloc (Nat.le_refl _) _⟩
  clear h
  go_enter Tryz.func126, Tryz.ntmps126
  go_wp2
  go_loopw [5, 6, 7] (fun s5 s6 s7 wr => ∃ (k : Nat) (y : Int), s7 = .int .i64 k ∧ s6 = .int .i64 y ∧ k ≤ n ∧ k ≤ 3 ∧ Hid (∃ L, Laid L k y ∧ (L, y) = tirTo l step k ∧ Own kTir wr w.heap.size 115 (fun _ => False) s5 k L ∧ Below w.heap.size w wr)) (fun _ _ s7 _ => 3 - (intOf s7).toNat)
  case atStart => exact ⟨0, 0, rfl, rfl, Nat.zero_le _, by omega, HL0⟩
  case round =>
    clear HL0
    obtain ⟨k, y, rfl, rfl, hkn, hk3, HL⟩ := hrel
    have k0 : (0 : Int) ≤ (k : Int) := by omega
    by_cases hlt : k < n
    · have k1 : (k : Int) < (n : Int) := by omega
      by_cases hl3 : k < 3
      · have k3 : (k : Int) < 3 := by omega
        obtain ⟨L, hL, hE, hO, hB⟩ := HL.out
        obtain ⟨t, ht⟩ := HR.out.get hlt
        obtain ⟨g, o, rfl, hgw, hg, hok, a0, a1, a2⟩ := row_Tir (HR.out.below hB (Nat.le_refl _)) ht
        have a1 := ((hB.cell (p := ⟨g, o + k * 3 + 1, none⟩) hgw).symm.trans a1)
        have a2 := ((hB.cell (p := ⟨g, o + k * 3 + 2, none⟩) hgw).symm.trans a2)
        obtain ⟨d, hd⟩ : ∃ d, modN t.least step = d := ⟨_, rfl⟩
        obtain ⟨r, hr⟩ : ∃ r, modN t.rate 4000 = r := ⟨_, rfl⟩
        obtain ⟨m, hm⟩ : ∃ m, modN t.amount 300 = m := ⟨_, rfl⟩
        have hT := tirTo_next hE ht
        rw [hd, hr, hm] at hT
        have HT := Lib.hid hT
        clear hT hE
        have hd1 := modN_lt t.least step (by omega)
        have hr1 := modN_lt t.rate 4000 (by omega)
        have hm1 := modN_lt t.amount 300 (by omega)
        have H1 := Lib.hid (fun W => mod64_any t.least step W (by omega) (by omega))
        have H2 := Lib.hid (fun W => mod64_any t.rate 4000 W (by omega) (by omega))
        have H3 := Lib.hid (fun W => mod64_any t.amount 300 W (by omega) (by omega))
        rw [hd] at hd1
        rw [hr] at hr1
        rw [hm] at hm1
        simp only [hd] at H1
        simp only [hr] at H2
        simp only [hm] at H3
        have hy0 := hL.low
        have hy1 := hL.high
        have HN : Hid (Laid (L ++ [⟨y + (d : Int), (r : Int), 1 + (m : Int)⟩]) (k + 1) (y + (d : Int) + 1)) := Lib.hid (hL.next (by omega) (by omega) (by omega) (by omega) (by omega) (by omega) (by omega))
        have HOK : Hid ((⟨y + (d : Int), (r : Int), 1 + (m : Int)⟩ : Tir).ok) := Lib.hid (tier_ok (by omega) (by omega) (by omega) (by omega) (by omega) (by omega))
        have b1 : ∀ u, Below w.heap.size w u → u.cell? ⟨g, o + k * 3 + 1, none⟩ = some (.int .i64 t.rate) := fun u hu => (hu.cell (p := ⟨g, _, none⟩) hgw).trans a1
        have b2 : ∀ u, Below w.heap.size w u → u.cell? ⟨g, o + k * 3 + 2, none⟩ = some (.int .i64 t.amount) := fun u hu => (hu.cell (p := ⟨g, _, none⟩) hgw).trans a2
        have HOB := Lib.hid (And.intro hO hB)
        have hka : k ≤ 2 := by omega
        have hwm : IntKind.i64.wrap (1 + (m : Int)) = 1 + (m : Int) := IntWalk.i64_in _ (by omega)
        clear hL hO hB ht hok hd hr hm HL a1 a2
        go_wp2_with fail
        refine (H1.out _).mono ?_
        rintro e w2 ⟨rfl, rfl⟩
        go_upto_region 7 with (fail)
        go_cut [5] (fun s5 wx => ∃ g1 cap, s5 = .slice (some ⟨g1, 0, none⟩) (k + 1) cap ∧ Hid (∃ L, Laid L (k + 1) (y + (d : Int) + 1) ∧ (L, y + (d : Int) + 1) = tirTo l step (k + 1) ∧ Own kTir wx w.heap.size 115 (fun _ => False) (.slice (some ⟨g1, 0, none⟩) (k + 1) cap) (k + 1) L ∧ Below w.heap.size w wx))
        case first =>
          go_region_held3 (fun u => Below w.heap.size w u)
            (first
              | assumption
              | (repeat (first | assumption | exact HOB.out.2 | refine Below.drew ?_ | refine Kd.below_alloc ?_ _)))
            (first
              | (go_at_call 29; with_reducible refine (H2.out _).mono ?_; rintro e wb ⟨rfl, rfl⟩)
              | (go_at_call 29; with_reducible refine (H3.out _).mono ?_; rintro e wb ⟨rfl, rfl⟩)
              | (refine Kd.step_push (o := ⟨some 45, _, _, _, _, _⟩) (W := w2.drew) (F := fun _ => False) (B := w.heap.size) (n := k) (v := u5) (xs := L) (y := ⟨y + (d : Int), (r : Int), 1 + (m : Int)⟩) (cs := [.int .i64 (y + (d : Int)), .int .i64 (r : Int), .int .i64 (1 + (m : Int))]) Ap.tir_t rfl (.tmp 28) (.tmp 44) rfl rfl rfl rfl ?_ (Tir_rep.2 ⟨rfl, HOK.out⟩) (by omega) (by omega) ?_ (fun _ h => h.elim) ?_; (next => exact HOB.out.1.later (by (repeat (first | exact Below.refl _ _ | refine Below.drew ?_)))); (next => exact Below.size (B := w.heap.size) (w := w) (by (repeat (first | exact HOB.out.2 | refine Below.drew ?_)))); (intro g1 cap w9 hown hgrow hfr; have hS9 : Below w.heap.size w w9 := Below.grown (by (repeat (first | exact HOB.out.2 | refine Below.drew ?_))) hgrow (Below.size (B := w.heap.size) (w := w) (by (repeat (first | exact HOB.out.2 | refine Below.drew ?_)))) (fun q hq => (HOB.out.1.low q hq).1))))
          all_goals
            have HO9 := Lib.hid (And.intro hown hS9)
            clear hown hgrow hfr
            go_wp2_with fail
            go_meet
            exact ⟨g1, cap, rfl, Lib.hid ⟨_, HN.out, HT.out, HO9.out.1, HO9.out.2⟩⟩
        case rest =>
          obtain ⟨g1, cap, rfl, HN5⟩ := hcut
          clear HOB HN HOK H1 H2 H3 b1 b2
          go_wp2
          go_roundw
          case rel => exact ⟨k + 1, y + (d : Int) + 1, by go_num, rfl, by omega, by omega, HN5⟩
          case measure => simp [intOf]; omega
      · have k3 : ¬ (k : Int) < 3 := by omega
        obtain ⟨L, hL, hE, hO, hB⟩ := HL.out
        have c0 : ((k : Int) == 0) = false := beq_eq_false_iff_ne.2 (by omega)
        obtain ⟨A5, c5, rfl⟩ := hO.value
        have HF : Hid (Tiered w l step (.returned (.slice A5 k c5)) wr) := Lib.hid ⟨_, L, rfl, hL.tiers (by omega) (by omega), tirOf_is hE (.inl (by omega)) (by rw [hL.len]; omega), by rw [hL.len]; exact hO, by rw [hL.len]; omega, hB⟩
        clear hL hE hO hB HL
        go_wp2
        go_ret
        exact HF.out
    · have k1 : ¬ (k : Int) < (n : Int) := by omega
      obtain ⟨L, hL, hE, hO, hB⟩ := HL.out
      obtain ⟨A5, c5, rfl⟩ := hO.value
      by_cases hk0 : k = 0
      · subst hk0
        have hL0 : L = [] := List.eq_nil_of_length_eq_zero hL.len
        subst hL0
        have hsd : 0 ≤ step / 2 ∧ step / 2 ≤ 5000 := by omega
        obtain ⟨s2, hs2'⟩ : ∃ s2, step / 2 = s2 := ⟨_, rfl⟩
        rw [hs2'] at hsd
        have HS2 := Lib.hid hs2'
        have HOK : Hid ((⟨s2, 1000, 0⟩ : Tir).ok ∧ Tiers [⟨s2, 1000, 0⟩]) := Lib.hid ⟨tier_ok (by omega) (by omega) (by omega) (by omega) (by omega) (by omega), one_tiers (by omega) (by omega)⟩
        have HOB := Lib.hid (And.intro hO hB)
        clear hL hE hO hB HL hsd
        go_wp2_with ((at_builtin; refine Kd.wpList_push (W := wr) (F := fun _ => False) (B := w.heap.size) (n := 0) (v := .slice A5 0 c5) (xs := []) (y := ⟨s2, 1000, 0⟩) (cs := [.int .i64 s2, .int .i64 1000, .int .i64 0]) Ap.tir_t rfl _ _ rfl rfl rfl rfl HOB.out.1 (Tir_rep.2 ⟨rfl, HOK.out.1⟩) (by omega) (by omega) HOB.out.2.size (fun _ h => h.elim) ?_; intro g1 cap w' hown hgrow hfr))
        have HF : Hid (Tiered w l step (.returned (.slice (some ⟨g1, 0, none⟩) 1 cap)) w') := Lib.hid ⟨_, _, rfl, HOK.out.2, by rw [← HS2.out]; exact tirOf_none (by have := HLn.out; omega), hown, by show 1 ≤ 3; omega, HOB.out.2.grown hgrow HOB.out.2.size fun q hq => (HOB.out.1.low q hq).1⟩
        clear hown hgrow hfr
        go_wp2
        go_ret
        exact HF.out
      · have c0 : ((k : Int) == 0) = false := beq_eq_false_iff_ne.2 (by omega)
        have HF : Hid (Tiered w l step (.returned (.slice A5 k c5)) wr) := Lib.hid ⟨_, L, rfl, hL.tiers (by omega) (by omega), tirOf_is hE (.inr ⟨by omega, by have := HLn.out; omega⟩) (by rw [hL.len]; omega), by rw [hL.len]; exact hO, by rw [hL.len]; omega, hB⟩
        clear hL hE hO hB HL
        go_wp2
        go_ret
        exact HF.out
end Go.Proofs.YtfcmhgneijipgaaGreat.Py

end
