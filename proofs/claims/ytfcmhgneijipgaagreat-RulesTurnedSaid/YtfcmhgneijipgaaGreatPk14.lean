/- The document's Rules. (made by wip/gen-rules2.py) -/
import Derived.Test.YtfcmhgneijipgaaGreatPk13
import Derived.Test.YtfcmhgneijipgaaGreatPk7
import Derived.Test.YtfcmhgneijipgaaGreatPk8

set_option maxRecDepth 100000
set_option linter.unusedVariables false
namespace Go.Proofs.YtfcmhgneijipgaaGreat.Ru
open Go.ChangeShapes Go.WideShapes Go.ChangeAt Go.RowKit
open Ap (CtR Zon Txs Shp Pol Rls kCtR kZon row_CtR row_Zon)
open Kd (Row Fit Lst Sl kStr kInt row_int)
noncomputable def rulesB (r : Rls) : Bool := Gd.goodB r.items && Pm.promosB r.promos && taxB r.tax && (decide (0 ≤ r.ship.fee) && decide (r.ship.fee ≤ 1000000000)) && (decide (0 ≤ r.ship.free) && decide (r.ship.free ≤ 10000000000000)) && (decide (0 ≤ r.policy.window) && decide (r.policy.window ≤ 100000)) && (decide (0 ≤ r.policy.grace) && decide (r.policy.grace ≤ 100000)) && decide (1 ≤ r.policy.mode) && decide (r.policy.mode ≤ 3) && (decide (0 ≤ r.policy.restock) && decide (r.policy.restock ≤ 10000)) && kindsB r.policy.order && kindsB r.policy.credit
structure RulesSmall (r : Rls) : Prop where
  items : r.items.length ≤ 1000000000
  promos : Pm.Slights r.promos ∧ r.promos.length ≤ 1000000000
  zones : ZonesSmall r.tax.zones ∧ r.tax.zones.length ≤ 1000000000000
  order : r.policy.order.length ≤ 1000000000000
  credit : r.policy.credit.length ≤ 1000000000000
theorem lst_later {α : Type} {K : Kd.Kind α} {w w1 : World} {s : Sl} {xs : List α} (h : Lst K w (· < w.heap.size) s xs) (hb : Below w.heap.size w w1) : Lst K w1 (· < w1.heap.size) s xs :=
  (h.below hb (Nat.le_refl _)).more fun b hb2 => Nat.lt_of_lt_of_le hb2 hb.size
theorem rules_later {w w1 : World} {r : Rls} {l : Rls.Lay} (h : Rls.Holds w (· < w.heap.size) r l) (hb : Below w.heap.size w w1) : Rls.Holds w1 (· < w1.heap.size) r l :=
  ⟨lst_later h.items hb, lst_later h.promos hb, ⟨h.tax.round, lst_later h.tax.zones hb⟩, h.ship, ⟨h.policy.window, h.policy.grace, h.policy.mode, h.policy.restock, lst_later h.policy.order hb, lst_later h.policy.credit hb⟩⟩
structure Held2 (w W : World) (b1 b2 : Nat) (r : Rls) (l : Rls.Lay) : Prop where
  one : Qu.Blk W b1 33 #[.slice l.items.A l.items.n l.items.c, .slice l.promos.A l.promos.n l.promos.c, .bool r.tax.incl, .bool r.tax.byOrder, .int .i64 r.tax.round, .slice l.tax.zones.A l.tax.zones.n l.tax.zones.c, .int .i64 r.ship.fee, .int .i64 r.ship.free, .int .i64 r.policy.window, .int .i64 r.policy.grace, .int .i64 r.policy.mode, .int .i64 r.policy.restock, .slice l.policy.order.A l.policy.order.n l.policy.order.c, .slice l.policy.credit.A l.policy.credit.n l.policy.credit.c]
  two : Qu.Blk W b2 31 #[.int .i64 r.policy.window, .int .i64 r.policy.grace, .int .i64 r.policy.mode, .int .i64 r.policy.restock, .slice l.policy.order.A l.policy.order.n l.policy.order.c, .slice l.policy.credit.A l.policy.credit.n l.policy.credit.c]
  holds : Rls.Holds W (· < W.heap.size) r l
  below : Below w.heap.size w W
theorem Held2.later {w W W' : World} {b1 b2 : Nat} {r : Rls} {l : Rls.Lay} (h : Held2 w W b1 b2 r l) (hb : Below W.heap.size W W') : Held2 w W' b1 b2 r l :=
  ⟨h.one.below hb, h.two.below hb, rules_later h.holds hb, h.below.trans (hb.mono h.below.size)⟩
set_option maxHeartbeats 4000000 in
theorem rrules_any (r : Rls) (l : Rls.Lay) (w : World) (h : Rls.Holds w (· < w.heap.size) r l) (hS : RulesSmall r) :
    Calls Tryz.prog 12 #[.agg #[.slice l.items.A l.items.n l.items.c, .slice l.promos.A l.promos.n l.promos.c, .bool r.tax.incl, .bool r.tax.byOrder, .int .i64 r.tax.round, .slice l.tax.zones.A l.tax.zones.n l.tax.zones.c, .int .i64 r.ship.fee, .int .i64 r.ship.free, .int .i64 r.policy.window, .int .i64 r.policy.grace, .int .i64 r.policy.mode, .int .i64 r.policy.restock, .slice l.policy.order.A l.policy.order.n l.policy.order.c, .slice l.policy.credit.A l.policy.credit.n l.policy.credit.c]] w fun e w' => e = .returned (.bool (rulesB r)) ∧ Below w.heap.size w w' := by
  obtain ⟨W1, hW1⟩ : ∃ W1, w.alloc (.cells #[.slice l.items.A l.items.n l.items.c, .slice l.promos.A l.promos.n l.promos.c, .bool r.tax.incl, .bool r.tax.byOrder, .int .i64 r.tax.round, .slice l.tax.zones.A l.tax.zones.n l.tax.zones.c, .int .i64 r.ship.fee, .int .i64 r.ship.free, .int .i64 r.policy.window, .int .i64 r.policy.grace, .int .i64 r.policy.mode, .int .i64 r.policy.restock, .slice l.policy.order.A l.policy.order.n l.policy.order.c, .slice l.policy.credit.A l.policy.credit.n l.policy.credit.c] 33) = W1 := ⟨_, rfl⟩
  obtain ⟨W2, hW2⟩ : ∃ W2, W1.alloc (.cells #[.int .i64 r.policy.window, .int .i64 r.policy.grace, .int .i64 r.policy.mode, .int .i64 r.policy.restock, .slice l.policy.order.A l.policy.order.n l.policy.order.c, .slice l.policy.credit.A l.policy.credit.n l.policy.credit.c] 31) = W2 := ⟨_, rfl⟩
  obtain ⟨b2, hb2⟩ : ∃ b, W1.heap.size = b := ⟨_, rfl⟩
  have hbel : Below w.heap.size w W2 := by rw [← hW2, ← hW1]; exact ((Below.refl _ _).alloc (Nat.le_refl _) _).alloc (by simp) _
  have HX := Lib.hid (show Held2 w W2 w.heap.size b2 r l from ⟨by rw [← hW2, ← hW1]; exact (Qu.Blk.new w _ _).alloc _, by rw [← hW2, ← hb2]; exact Qu.Blk.new W1 _ _, rules_later h hbel, hbel⟩)
  have HS := Lib.hid hS
  have x1 : Qu.Blk W1 w.heap.size 33 #[.slice l.items.A l.items.n l.items.c, .slice l.promos.A l.promos.n l.promos.c, .bool r.tax.incl, .bool r.tax.byOrder, .int .i64 r.tax.round, .slice l.tax.zones.A l.tax.zones.n l.tax.zones.c, .int .i64 r.ship.fee, .int .i64 r.ship.free, .int .i64 r.policy.window, .int .i64 r.policy.grace, .int .i64 r.policy.mode, .int .i64 r.policy.restock, .slice l.policy.order.A l.policy.order.n l.policy.order.c, .slice l.policy.credit.A l.policy.credit.n l.policy.credit.c] := by rw [← hW1]; exact Qu.Blk.new w _ _
  have q8 := x1.cell 8
  have q9 := x1.cell 9
  have q10 := x1.cell 10
  have q11 := x1.cell 11
  have q12 := x1.cell 12
  have q13 := x1.cell 13
  have HZ : Hid (rulesB r = (Gd.goodB r.items && Pm.promosB r.promos && taxB r.tax && (decide (0 ≤ r.ship.fee) && decide (r.ship.fee ≤ 1000000000)) && (decide (0 ≤ r.ship.free) && decide (r.ship.free ≤ 10000000000000)) && (decide (0 ≤ r.policy.window) && decide (r.policy.window ≤ 100000)) && (decide (0 ≤ r.policy.grace) && decide (r.policy.grace ≤ 100000)) && decide (1 ≤ r.policy.mode) && decide (r.policy.mode ≤ 3) && (decide (0 ≤ r.policy.restock) && decide (r.policy.restock ≤ 10000)) && kindsB r.policy.order && kindsB r.policy.credit)) := Lib.hid rfl
  have HI := Lib.hid (And.intro h.items.row.len (And.intro h.promos.row.len (And.intro h.tax.zones.row.len (And.intro h.policy.order.row.len h.policy.credit.row.len))))
  clear h hS hbel x1
  obtain ⟨v1, hv1⟩ : ∃ b, (Gd.goodB r.items) = b := ⟨_, rfl⟩
  obtain ⟨v2, hv2⟩ : ∃ b, (Pm.promosB r.promos) = b := ⟨_, rfl⟩
  obtain ⟨v3, hv3⟩ : ∃ b, (taxB r.tax) = b := ⟨_, rfl⟩
  obtain ⟨v4, hv4⟩ : ∃ b, ((decide (0 ≤ r.ship.fee) && decide (r.ship.fee ≤ 1000000000))) = b := ⟨_, rfl⟩
  obtain ⟨v5, hv5⟩ : ∃ b, ((decide (0 ≤ r.ship.free) && decide (r.ship.free ≤ 10000000000000))) = b := ⟨_, rfl⟩
  obtain ⟨v6, hv6⟩ : ∃ b, ((decide (0 ≤ r.policy.window) && decide (r.policy.window ≤ 100000))) = b := ⟨_, rfl⟩
  obtain ⟨v7, hv7⟩ : ∃ b, ((decide (0 ≤ r.policy.grace) && decide (r.policy.grace ≤ 100000))) = b := ⟨_, rfl⟩
  obtain ⟨v8, hv8⟩ : ∃ b, (decide (1 ≤ r.policy.mode)) = b := ⟨_, rfl⟩
  obtain ⟨v9, hv9⟩ : ∃ b, (decide (r.policy.mode ≤ 3)) = b := ⟨_, rfl⟩
  obtain ⟨v10, hv10⟩ : ∃ b, ((decide (0 ≤ r.policy.restock) && decide (r.policy.restock ≤ 10000))) = b := ⟨_, rfl⟩
  obtain ⟨v11, hv11⟩ : ∃ b, (kindsB r.policy.order) = b := ⟨_, rfl⟩
  obtain ⟨v12, hv12⟩ : ∃ b, (kindsB r.policy.credit) = b := ⟨_, rfl⟩
  have HV := Lib.hid (And.intro hv1 (And.intro hv2 (And.intro hv3 (And.intro hv11 hv12))))
  rw [hv1, hv2, hv3, hv4, hv5, hv6, hv7, hv8, hv9, hv10, hv11, hv12] at HZ
  have N4 := Lib.hid (fun W => Py.rin_any r.ship.fee 1000000000 W)
  simp only [hv4] at N4
  have N5 := Lib.hid (fun W => Py.rin_any r.ship.free 10000000000000 W)
  simp only [hv5] at N5
  have N6 := Lib.hid (fun W => Py.rin_any r.policy.window 100000 W)
  simp only [hv6] at N6
  have N7 := Lib.hid (fun W => Py.rin_any r.policy.grace 100000 W)
  simp only [hv7] at N7
  have N10 := Lib.hid (fun W => Py.rin_any r.policy.restock 10000 W)
  simp only [hv10] at N10
  have HM := Lib.hid (And.intro hv8 hv9)
  clear hv1 hv2 hv3 hv4 hv5 hv6 hv7 hv8 hv9 hv10 hv11 hv12
  go_enter Tryz.func12, Tryz.ntmps12
  have x0' := HX.out.one.cell 0
  go_wp2_with fail
  first | rw [hb2] | skip
  clear hW1 hW2 hb2 q8 q9 q10 q11 q12 q13
  have H1 := Lib.hid (Gd.rgoods_any l.items.A l.items.n l.items.c r.items _ _ HX.out.holds.items.row (by have := HI.out.1; have := HS.out.items; omega))
  rw [HV.out.1] at H1
  skip
  refine H1.out.mono ?_
  rintro e z1 ⟨rfl, hb1⟩
  have HX1 := Lib.hid (HX.out.later (hb1.below _))
  clear hb1
  cases v1 with
  | false =>
    go_wp2
    go_ret
    exact ⟨by rw [HZ.out]; rfl, HX1.out.below⟩
  | true =>
  have yo1 := HX1.out.one.cell 1
  have H2 := Lib.hid (Pm.rpromos_any l.promos.A l.promos.n l.promos.c r.promos _ HX1.out.holds.promos.row HS.out.promos.1 (by have := HI.out.2.1; have := HS.out.promos.2; omega))
  rw [HV.out.2.1] at H2
  go_wp2_with fail
  skip
  refine H2.out.mono ?_
  rintro e z2 ⟨rfl, hb2⟩
  have HX2 := Lib.hid (HX1.out.later hb2)
  clear hb2
  cases v2 with
  | false =>
    go_wp2
    go_ret
    exact ⟨by rw [HZ.out]; rfl, HX2.out.below⟩
  | true =>
  have yo2 := HX2.out.one.cell 2
  have yo3 := HX2.out.one.cell 3
  have yo4 := HX2.out.one.cell 4
  have yo5 := HX2.out.one.cell 5
  have H3 := Lib.hid (rtax_any r.tax l.tax _ HX2.out.holds.tax HS.out.zones.1 (by have := HI.out.2.2.1; have := HS.out.zones.2; omega))
  rw [HV.out.2.2.1] at H3
  go_wp2_with fail
  skip
  refine H3.out.mono ?_
  rintro e z3 ⟨rfl, hb3⟩
  have HX3 := Lib.hid (HX2.out.later hb3)
  clear hb3
  cases v3 with
  | false =>
    go_wp2
    go_ret
    exact ⟨by rw [HZ.out]; rfl, HX3.out.below⟩
  | true =>
  have yo6 := HX3.out.one.cell 6
  have yo7 := HX3.out.one.cell 7
  have yt0 := HX3.out.two.cell 0
  have yt1 := HX3.out.two.cell 1
  have yt2 := HX3.out.two.cell 2
  have yt3 := HX3.out.two.cell 3
  have yt4 := HX3.out.two.cell 4
  have yt5 := HX3.out.two.cell 5
  go_wp2_with fail
  skip
  refine (N4.out _).mono ?_
  rintro e z4 ⟨rfl, rfl⟩
  cases v4 with
  | false =>
    go_wp2
    go_ret
    exact ⟨by rw [HZ.out]; rfl, HX3.out.below⟩
  | true =>
  go_wp2_with fail
  skip
  refine (N5.out _).mono ?_
  rintro e z5 ⟨rfl, rfl⟩
  cases v5 with
  | false =>
    go_wp2
    go_ret
    exact ⟨by rw [HZ.out]; rfl, HX3.out.below⟩
  | true =>
  go_wp2_with fail
  skip
  refine (N6.out _).mono ?_
  rintro e z6 ⟨rfl, rfl⟩
  cases v6 with
  | false =>
    go_wp2
    go_ret
    exact ⟨by rw [HZ.out]; rfl, HX3.out.below⟩
  | true =>
  go_wp2_with fail
  skip
  refine (N7.out _).mono ?_
  rintro e z7 ⟨rfl, rfl⟩
  cases v7 with
  | false =>
    go_wp2
    go_ret
    exact ⟨by rw [HZ.out]; rfl, HX3.out.below⟩
  | true =>
  by_cases m1 : 1 ≤ r.policy.mode
  case neg =>
    have m2 : v8 = false := by rw [← HM.out.1]; exact decide_eq_false m1
    subst m2
    go_wp2
    go_ret
    exact ⟨by rw [HZ.out]; rfl, HX3.out.below⟩
  by_cases m3 : r.policy.mode ≤ 3
  case neg =>
    have m2 : v8 = true := by rw [← HM.out.1]; exact decide_eq_true m1
    have m4 : v9 = false := by rw [← HM.out.2]; exact decide_eq_false m3
    subst m2
    subst m4
    go_wp2
    go_ret
    exact ⟨by rw [HZ.out]; rfl, HX3.out.below⟩
  have m2 : v8 = true := by rw [← HM.out.1]; exact decide_eq_true m1
  have m4 : v9 = true := by rw [← HM.out.2]; exact decide_eq_true m3
  subst m2
  subst m4
  go_wp2_with fail
  skip
  refine (N10.out _).mono ?_
  rintro e z10 ⟨rfl, rfl⟩
  cases v10 with
  | false =>
    go_wp2
    go_ret
    exact ⟨by rw [HZ.out]; rfl, HX3.out.below⟩
  | true =>
  have H11 := Lib.hid (rkinds_any l.policy.order.A l.policy.order.n l.policy.order.c r.policy.order _ _ HX3.out.holds.policy.order.row (by have := HI.out.2.2.2.1; have := HS.out.order; omega))
  rw [HV.out.2.2.2.1] at H11
  go_wp2_with fail
  skip
  refine H11.out.mono ?_
  rintro e z11 ⟨rfl, hb11⟩
  have HX11 := Lib.hid (HX3.out.later (hb11.below _))
  clear hb11
  cases v11 with
  | false =>
    go_wp2
    go_ret
    exact ⟨by rw [HZ.out]; rfl, HX11.out.below⟩
  | true =>
  have yt5 := HX11.out.two.cell 5
  have H12 := Lib.hid (rkinds_any l.policy.credit.A l.policy.credit.n l.policy.credit.c r.policy.credit _ _ HX11.out.holds.policy.credit.row (by have := HI.out.2.2.2.2; have := HS.out.credit; omega))
  rw [HV.out.2.2.2.2] at H12
  go_wp2_with fail
  refine H12.out.mono ?_
  rintro e z12 ⟨rfl, hb12⟩
  have HX12 := Lib.hid (HX11.out.later (hb12.below _))
  clear hb12
  go_wp2
  go_ret
  exact ⟨by rw [HZ.out]; rfl, HX12.out.below⟩
end Go.Proofs.YtfcmhgneijipgaaGreat.Ru
