/- The landed Same: two rules held against each other. (made by wip/gen-closures.py) · Law 13's awake. · The statements' names: texts of one byte. -/
import Derived.Test.YtfcmhgneijipgaaGreatPk20
import Derived.Test.YtfcmhgneijipgaaGreatPk23
import Derived.Test.YtfcmhgneijipgaaGreatPk24
import Derived.Test.YtfcmhgneijipgaaGreatPk27
import Derived.Test.YtfcmhgneijipgaaGreatPk3

section
set_option maxRecDepth 100000
set_option linter.unusedVariables false
namespace Go.Proofs.YtfcmhgneijipgaaGreat.Ru
open Go.ChangeShapes Go.WideShapes Go.ChangeAt Go.RowKit
open Ap (CtR Tir Zon Txs Shp Pol Rls Scp Prt Prm kCtR kZon kPrt kPrm row_CtR row_Zon row_Prt row_Prm)
open Kd (Row Lst Sl eqL Two rows_get eqL_no eqL_yes eqL_len Agree)
open Hp (eqI ag_of)
set_option maxHeartbeats 2000000 in
theorem Same_1 (x y : Rls) (l l' : Rls.Lay) (F : Nat → Prop) (p q : Nat) (w : World) (hbx : Qu.Blk w p 33 #[.slice l.items.A l.items.n l.items.c, .slice l.promos.A l.promos.n l.promos.c, .bool x.tax.incl, .bool x.tax.byOrder, .int .i64 x.tax.round, .slice l.tax.zones.A l.tax.zones.n l.tax.zones.c, .int .i64 x.ship.fee, .int .i64 x.ship.free, .int .i64 x.policy.window, .int .i64 x.policy.grace, .int .i64 x.policy.mode, .int .i64 x.policy.restock, .slice l.policy.order.A l.policy.order.n l.policy.order.c, .slice l.policy.credit.A l.policy.credit.n l.policy.credit.c]) (hby : Qu.Blk w q 33 #[.slice l'.items.A l'.items.n l'.items.c, .slice l'.promos.A l'.promos.n l'.promos.c, .bool y.tax.incl, .bool y.tax.byOrder, .int .i64 y.tax.round, .slice l'.tax.zones.A l'.tax.zones.n l'.tax.zones.c, .int .i64 y.ship.fee, .int .i64 y.ship.free, .int .i64 y.policy.window, .int .i64 y.policy.grace, .int .i64 y.policy.mode, .int .i64 y.policy.restock, .slice l'.policy.order.A l'.policy.order.n l'.policy.order.c, .slice l'.policy.credit.A l'.policy.credit.n l'.policy.credit.c]) (hx : Rls.Holds w F x l) (hy : Rls.Holds w F y l') (hF : ∀ b, F b → b < w.heap.size) (hR : SmallR x) :
    Calls Tryz.prog 46 #[.pointer (some ⟨p, 0, none⟩), .pointer (some ⟨q, 0, none⟩)] w fun e w' => e = .returned (.bool (eqL It.sameB x.items y.items)) ∧ Below w.heap.size w w' := by
  have x0 := hbx.cell 0
  have y0 := hby.cell 0
  have HC := Lib.hid (equalI_any l.items.A l'.items.A l.items.n l'.items.n l.items.c l'.items.c x.items y.items F w (hx.items.row) (hy.items.row) hF (by have := hx.items.row.len; have := hR.items; omega))
  clear hx hy hF hbx hby
  go_enter Tryz.func46, Tryz.ntmps46
  go_wp2_with fail
  refine HC.out.mono ?_
  rintro e w1 ⟨rfl, hb⟩
  have HB := Lib.hid hb
  clear hb
  go_wp2
  go_ret
  exact ⟨rfl, HB.out⟩
set_option maxHeartbeats 2000000 in
theorem Same_2 (x y : Rls) (l l' : Rls.Lay) (F : Nat → Prop) (p q : Nat) (w : World) (hbx : Qu.Blk w p 33 #[.slice l.items.A l.items.n l.items.c, .slice l.promos.A l.promos.n l.promos.c, .bool x.tax.incl, .bool x.tax.byOrder, .int .i64 x.tax.round, .slice l.tax.zones.A l.tax.zones.n l.tax.zones.c, .int .i64 x.ship.fee, .int .i64 x.ship.free, .int .i64 x.policy.window, .int .i64 x.policy.grace, .int .i64 x.policy.mode, .int .i64 x.policy.restock, .slice l.policy.order.A l.policy.order.n l.policy.order.c, .slice l.policy.credit.A l.policy.credit.n l.policy.credit.c]) (hby : Qu.Blk w q 33 #[.slice l'.items.A l'.items.n l'.items.c, .slice l'.promos.A l'.promos.n l'.promos.c, .bool y.tax.incl, .bool y.tax.byOrder, .int .i64 y.tax.round, .slice l'.tax.zones.A l'.tax.zones.n l'.tax.zones.c, .int .i64 y.ship.fee, .int .i64 y.ship.free, .int .i64 y.policy.window, .int .i64 y.policy.grace, .int .i64 y.policy.mode, .int .i64 y.policy.restock, .slice l'.policy.order.A l'.policy.order.n l'.policy.order.c, .slice l'.policy.credit.A l'.policy.credit.n l'.policy.credit.c]) (hx : Rls.Holds w F x l) (hy : Rls.Holds w F y l') (hF : ∀ b, F b → b < w.heap.size) (hR : SmallR x) :
    Calls Tryz.prog 48 #[.pointer (some ⟨p, 0, none⟩), .pointer (some ⟨q, 0, none⟩)] w fun e w' => e = .returned (.bool (eqL eqM x.promos y.promos)) ∧ Below w.heap.size w w' := by
  have x1 := hbx.cell 1
  have y1 := hby.cell 1
  have HC := Lib.hid (same_promosL l.promos.A l'.promos.A l.promos.n l'.promos.n l.promos.c l'.promos.c x.promos y.promos F w (hx.promos.row) (hy.promos.row) hF (by have := hx.promos.row.len; have := hR.promos; omega) hR.each)
  clear hx hy hF hbx hby
  go_enter Tryz.func48, Tryz.ntmps48
  go_wp2_with fail
  refine HC.out.mono ?_
  rintro e w1 ⟨rfl, hb⟩
  have HB := Lib.hid hb
  clear hb
  go_wp2
  go_ret
  exact ⟨rfl, HB.out⟩
set_option maxHeartbeats 2000000 in
theorem Same_3 (x y : Rls) (l l' : Rls.Lay) (F : Nat → Prop) (p q : Nat) (w : World) (hbx : Qu.Blk w p 33 #[.slice l.items.A l.items.n l.items.c, .slice l.promos.A l.promos.n l.promos.c, .bool x.tax.incl, .bool x.tax.byOrder, .int .i64 x.tax.round, .slice l.tax.zones.A l.tax.zones.n l.tax.zones.c, .int .i64 x.ship.fee, .int .i64 x.ship.free, .int .i64 x.policy.window, .int .i64 x.policy.grace, .int .i64 x.policy.mode, .int .i64 x.policy.restock, .slice l.policy.order.A l.policy.order.n l.policy.order.c, .slice l.policy.credit.A l.policy.credit.n l.policy.credit.c]) (hby : Qu.Blk w q 33 #[.slice l'.items.A l'.items.n l'.items.c, .slice l'.promos.A l'.promos.n l'.promos.c, .bool y.tax.incl, .bool y.tax.byOrder, .int .i64 y.tax.round, .slice l'.tax.zones.A l'.tax.zones.n l'.tax.zones.c, .int .i64 y.ship.fee, .int .i64 y.ship.free, .int .i64 y.policy.window, .int .i64 y.policy.grace, .int .i64 y.policy.mode, .int .i64 y.policy.restock, .slice l'.policy.order.A l'.policy.order.n l'.policy.order.c, .slice l'.policy.credit.A l'.policy.credit.n l'.policy.credit.c]) (hx : Rls.Holds w F x l) (hy : Rls.Holds w F y l') (hF : ∀ b, F b → b < w.heap.size) (hR : SmallR x) :
    Calls Tryz.prog 51 #[.pointer (some ⟨p, 0, none⟩), .pointer (some ⟨q, 0, none⟩)] w fun e w' => e = .returned (.bool (eqX x.tax y.tax)) ∧ Below w.heap.size w w' := by
  have x2 := hbx.cell 2
  have y2 := hby.cell 2
  have x3 := hbx.cell 3
  have y3 := hby.cell 3
  have x4 := hbx.cell 4
  have y4 := hby.cell 4
  have x5 := hbx.cell 5
  have y5 := hby.cell 5
  have HC := Lib.hid (tax_sameL x.tax y.tax l.tax l'.tax F w hx.tax hy.tax hF hR.zones hR.rates)
  clear hx hy hF hbx hby
  go_enter Tryz.func51, Tryz.ntmps51
  go_wp2_with fail
  refine HC.out.mono ?_
  rintro e w1 ⟨rfl, hb⟩
  have HB := Lib.hid hb
  clear hb
  go_wp2
  go_ret
  exact ⟨rfl, HB.out⟩
set_option maxHeartbeats 2000000 in
theorem Same_4 (x y : Rls) (l l' : Rls.Lay) (F : Nat → Prop) (p q : Nat) (w : World) (hbx : Qu.Blk w p 33 #[.slice l.items.A l.items.n l.items.c, .slice l.promos.A l.promos.n l.promos.c, .bool x.tax.incl, .bool x.tax.byOrder, .int .i64 x.tax.round, .slice l.tax.zones.A l.tax.zones.n l.tax.zones.c, .int .i64 x.ship.fee, .int .i64 x.ship.free, .int .i64 x.policy.window, .int .i64 x.policy.grace, .int .i64 x.policy.mode, .int .i64 x.policy.restock, .slice l.policy.order.A l.policy.order.n l.policy.order.c, .slice l.policy.credit.A l.policy.credit.n l.policy.credit.c]) (hby : Qu.Blk w q 33 #[.slice l'.items.A l'.items.n l'.items.c, .slice l'.promos.A l'.promos.n l'.promos.c, .bool y.tax.incl, .bool y.tax.byOrder, .int .i64 y.tax.round, .slice l'.tax.zones.A l'.tax.zones.n l'.tax.zones.c, .int .i64 y.ship.fee, .int .i64 y.ship.free, .int .i64 y.policy.window, .int .i64 y.policy.grace, .int .i64 y.policy.mode, .int .i64 y.policy.restock, .slice l'.policy.order.A l'.policy.order.n l'.policy.order.c, .slice l'.policy.credit.A l'.policy.credit.n l'.policy.credit.c]) :
    Calls Tryz.prog 53 #[.pointer (some ⟨p, 0, none⟩), .pointer (some ⟨q, 0, none⟩)] w fun e w' => e = .returned (.bool (eqW x.ship y.ship)) ∧ Below w.heap.size w w' := by
  have x6 := hbx.cell 6
  have y6 := hby.cell 6
  have x7 := hbx.cell 7
  have y7 := hby.cell 7
  clear hbx hby
  go_enter Tryz.func53, Tryz.ntmps53
  go_wp2
  all_goals (go_ret; exact ⟨by first | rfl | simp [eqW, *], Below.refl _ _⟩)
set_option maxHeartbeats 2000000 in
theorem Same_5 (x y : Rls) (l l' : Rls.Lay) (F : Nat → Prop) (p q : Nat) (w : World) (hbx : Qu.Blk w p 33 #[.slice l.items.A l.items.n l.items.c, .slice l.promos.A l.promos.n l.promos.c, .bool x.tax.incl, .bool x.tax.byOrder, .int .i64 x.tax.round, .slice l.tax.zones.A l.tax.zones.n l.tax.zones.c, .int .i64 x.ship.fee, .int .i64 x.ship.free, .int .i64 x.policy.window, .int .i64 x.policy.grace, .int .i64 x.policy.mode, .int .i64 x.policy.restock, .slice l.policy.order.A l.policy.order.n l.policy.order.c, .slice l.policy.credit.A l.policy.credit.n l.policy.credit.c]) (hby : Qu.Blk w q 33 #[.slice l'.items.A l'.items.n l'.items.c, .slice l'.promos.A l'.promos.n l'.promos.c, .bool y.tax.incl, .bool y.tax.byOrder, .int .i64 y.tax.round, .slice l'.tax.zones.A l'.tax.zones.n l'.tax.zones.c, .int .i64 y.ship.fee, .int .i64 y.ship.free, .int .i64 y.policy.window, .int .i64 y.policy.grace, .int .i64 y.policy.mode, .int .i64 y.policy.restock, .slice l'.policy.order.A l'.policy.order.n l'.policy.order.c, .slice l'.policy.credit.A l'.policy.credit.n l'.policy.credit.c]) (hx : Rls.Holds w F x l) (hy : Rls.Holds w F y l') (hF : ∀ b, F b → b < w.heap.size) (hR : SmallR x) :
    Calls Tryz.prog 54 #[.pointer (some ⟨p, 0, none⟩), .pointer (some ⟨q, 0, none⟩)] w fun e w' => e = .returned (.bool (eqP x.policy y.policy)) ∧ Below w.heap.size w w' := by
  have x8 := hbx.cell 8
  have y8 := hby.cell 8
  have x9 := hbx.cell 9
  have y9 := hby.cell 9
  have x10 := hbx.cell 10
  have y10 := hby.cell 10
  have x11 := hbx.cell 11
  have y11 := hby.cell 11
  have x12 := hbx.cell 12
  have y12 := hby.cell 12
  have x13 := hbx.cell 13
  have y13 := hby.cell 13
  have HC := Lib.hid (policy_sameL x.policy y.policy l.policy l'.policy F w hx.policy hy.policy hF hR.order hR.credit)
  clear hx hy hF hbx hby
  go_enter Tryz.func54, Tryz.ntmps54
  go_wp2_with fail
  refine HC.out.mono ?_
  rintro e w1 ⟨rfl, hb⟩
  have HB := Lib.hid hb
  clear hb
  go_wp2
  go_ret
  exact ⟨rfl, HB.out⟩
set_option maxHeartbeats 4000000 in
theorem rules_sameL (x y : Rls) (l l' : Rls.Lay) (F : Nat → Prop) (w : World) (hx : Rls.Holds w F x l) (hy : Rls.Holds w F y l') (hF : ∀ b, F b → b < w.heap.size) (hR : SmallR x) :
    Calls Tryz.prog 16 #[.agg #[.slice l.items.A l.items.n l.items.c, .slice l.promos.A l.promos.n l.promos.c, .bool x.tax.incl, .bool x.tax.byOrder, .int .i64 x.tax.round, .slice l.tax.zones.A l.tax.zones.n l.tax.zones.c, .int .i64 x.ship.fee, .int .i64 x.ship.free, .int .i64 x.policy.window, .int .i64 x.policy.grace, .int .i64 x.policy.mode, .int .i64 x.policy.restock, .slice l.policy.order.A l.policy.order.n l.policy.order.c, .slice l.policy.credit.A l.policy.credit.n l.policy.credit.c], .agg #[.slice l'.items.A l'.items.n l'.items.c, .slice l'.promos.A l'.promos.n l'.promos.c, .bool y.tax.incl, .bool y.tax.byOrder, .int .i64 y.tax.round, .slice l'.tax.zones.A l'.tax.zones.n l'.tax.zones.c, .int .i64 y.ship.fee, .int .i64 y.ship.free, .int .i64 y.policy.window, .int .i64 y.policy.grace, .int .i64 y.policy.mode, .int .i64 y.policy.restock, .slice l'.policy.order.A l'.policy.order.n l'.policy.order.c, .slice l'.policy.credit.A l'.policy.credit.n l'.policy.credit.c]] w fun e w' => e = .returned (.bool (eqR x y)) ∧ Below w.heap.size w w' := by
  obtain ⟨W1, hW1⟩ : ∃ W1, w.alloc (.cells #[.slice l.items.A l.items.n l.items.c, .slice l.promos.A l.promos.n l.promos.c, .bool x.tax.incl, .bool x.tax.byOrder, .int .i64 x.tax.round, .slice l.tax.zones.A l.tax.zones.n l.tax.zones.c, .int .i64 x.ship.fee, .int .i64 x.ship.free, .int .i64 x.policy.window, .int .i64 x.policy.grace, .int .i64 x.policy.mode, .int .i64 x.policy.restock, .slice l.policy.order.A l.policy.order.n l.policy.order.c, .slice l.policy.credit.A l.policy.credit.n l.policy.credit.c] 33) = W1 := ⟨_, rfl⟩
  obtain ⟨W2, hW2⟩ : ∃ W2, W1.alloc (.cells #[.slice l'.items.A l'.items.n l'.items.c, .slice l'.promos.A l'.promos.n l'.promos.c, .bool y.tax.incl, .bool y.tax.byOrder, .int .i64 y.tax.round, .slice l'.tax.zones.A l'.tax.zones.n l'.tax.zones.c, .int .i64 y.ship.fee, .int .i64 y.ship.free, .int .i64 y.policy.window, .int .i64 y.policy.grace, .int .i64 y.policy.mode, .int .i64 y.policy.restock, .slice l'.policy.order.A l'.policy.order.n l'.policy.order.c, .slice l'.policy.credit.A l'.policy.credit.n l'.policy.credit.c] 33) = W2 := ⟨_, rfl⟩
  have hB : Below w.heap.size w W2 := by rw [← hW2, ← hW1]; exact ((Below.refl _ _).alloc (Nat.le_refl _) _).alloc (by simp) _
  have hbx : Qu.Blk W2 w.heap.size 33 #[.slice l.items.A l.items.n l.items.c, .slice l.promos.A l.promos.n l.promos.c, .bool x.tax.incl, .bool x.tax.byOrder, .int .i64 x.tax.round, .slice l.tax.zones.A l.tax.zones.n l.tax.zones.c, .int .i64 x.ship.fee, .int .i64 x.ship.free, .int .i64 x.policy.window, .int .i64 x.policy.grace, .int .i64 x.policy.mode, .int .i64 x.policy.restock, .slice l.policy.order.A l.policy.order.n l.policy.order.c, .slice l.policy.credit.A l.policy.credit.n l.policy.credit.c] := by rw [← hW2, ← hW1]; exact (Qu.Blk.new w _ _).alloc _
  have hby : Qu.Blk W2 W1.heap.size 33 #[.slice l'.items.A l'.items.n l'.items.c, .slice l'.promos.A l'.promos.n l'.promos.c, .bool y.tax.incl, .bool y.tax.byOrder, .int .i64 y.tax.round, .slice l'.tax.zones.A l'.tax.zones.n l'.tax.zones.c, .int .i64 y.ship.fee, .int .i64 y.ship.free, .int .i64 y.policy.window, .int .i64 y.policy.grace, .int .i64 y.policy.mode, .int .i64 y.policy.restock, .slice l'.policy.order.A l'.policy.order.n l'.policy.order.c, .slice l'.policy.credit.A l'.policy.credit.n l'.policy.credit.c] := by rw [← hW2]; exact Qu.Blk.new W1 _ _
  obtain ⟨W3, hW3⟩ : ∃ W3, W2.alloc (.cells #[.func (.func 46) #[] #[.pointer (some ⟨w.heap.size, 0, none⟩), .pointer (some ⟨W1.heap.size, 0, none⟩)], .func (.func 48) #[] #[.pointer (some ⟨w.heap.size, 0, none⟩), .pointer (some ⟨W1.heap.size, 0, none⟩)], .func (.func 51) #[] #[.pointer (some ⟨w.heap.size, 0, none⟩), .pointer (some ⟨W1.heap.size, 0, none⟩)], .func (.func 53) #[] #[.pointer (some ⟨w.heap.size, 0, none⟩), .pointer (some ⟨W1.heap.size, 0, none⟩)], .func (.func 54) #[] #[.pointer (some ⟨w.heap.size, 0, none⟩), .pointer (some ⟨W1.heap.size, 0, none⟩)]] 35) = W3 := ⟨_, rfl⟩
  have hb3 : Below W2.heap.size W2 W3 := by rw [← hW3]; exact (Below.refl _ _).alloc (Nat.le_refl _) _
  have hbf : Qu.Blk W3 W2.heap.size 35 #[.func (.func 46) #[] #[.pointer (some ⟨w.heap.size, 0, none⟩), .pointer (some ⟨W1.heap.size, 0, none⟩)], .func (.func 48) #[] #[.pointer (some ⟨w.heap.size, 0, none⟩), .pointer (some ⟨W1.heap.size, 0, none⟩)], .func (.func 51) #[] #[.pointer (some ⟨w.heap.size, 0, none⟩), .pointer (some ⟨W1.heap.size, 0, none⟩)], .func (.func 53) #[] #[.pointer (some ⟨w.heap.size, 0, none⟩), .pointer (some ⟨W1.heap.size, 0, none⟩)], .func (.func 54) #[] #[.pointer (some ⟨w.heap.size, 0, none⟩), .pointer (some ⟨W1.heap.size, 0, none⟩)]] := by rw [← hW3]; exact Qu.Blk.new W2 _ _
  have HON : ∀ W, Below W3.heap.size W3 W → Rls.Holds W F x l ∧ Rls.Holds W F y l' ∧ (∀ b, F b → b < W.heap.size) := fun W hW => by
    have hz : Below w.heap.size w W := (hB.trans (hb3.mono hB.size)).trans (hW.mono (hB.trans (hb3.mono hB.size)).size)
    have ag : Agree F w W := ag_of hF (Below.refl _ _) (hz)
    exact ⟨rls_on hx ag, rls_on hy ag, fun b hb => Nat.lt_of_lt_of_le (hF b hb) hz.size⟩
  have HA : Asks W3 [.func (.func 46) #[] #[.pointer (some ⟨w.heap.size, 0, none⟩), .pointer (some ⟨W1.heap.size, 0, none⟩)], .func (.func 48) #[] #[.pointer (some ⟨w.heap.size, 0, none⟩), .pointer (some ⟨W1.heap.size, 0, none⟩)], .func (.func 51) #[] #[.pointer (some ⟨w.heap.size, 0, none⟩), .pointer (some ⟨W1.heap.size, 0, none⟩)], .func (.func 53) #[] #[.pointer (some ⟨w.heap.size, 0, none⟩), .pointer (some ⟨W1.heap.size, 0, none⟩)], .func (.func 54) #[] #[.pointer (some ⟨w.heap.size, 0, none⟩), .pointer (some ⟨W1.heap.size, 0, none⟩)]] [eqL It.sameB x.items y.items, eqL eqM x.promos y.promos, eqX x.tax y.tax, eqW x.ship y.ship, eqP x.policy y.policy] := by
    refine Asks.cons (run_call Tryz.func46 (by kernel_rfl) (by kernel_rfl) _) (fun W hW => Same_1 x y l l' F w.heap.size W1.heap.size W (hbx.below (hb3.trans (hW.mono hb3.size))) (hby.below (hb3.trans (hW.mono hb3.size))) (HON W hW).1 (HON W hW).2.1 (HON W hW).2.2 hR) ?_
    refine Asks.cons (run_call Tryz.func48 (by kernel_rfl) (by kernel_rfl) _) (fun W hW => Same_2 x y l l' F w.heap.size W1.heap.size W (hbx.below (hb3.trans (hW.mono hb3.size))) (hby.below (hb3.trans (hW.mono hb3.size))) (HON W hW).1 (HON W hW).2.1 (HON W hW).2.2 hR) ?_
    refine Asks.cons (run_call Tryz.func51 (by kernel_rfl) (by kernel_rfl) _) (fun W hW => Same_3 x y l l' F w.heap.size W1.heap.size W (hbx.below (hb3.trans (hW.mono hb3.size))) (hby.below (hb3.trans (hW.mono hb3.size))) (HON W hW).1 (HON W hW).2.1 (HON W hW).2.2 hR) ?_
    refine Asks.cons (run_call Tryz.func53 (by kernel_rfl) (by kernel_rfl) _) (fun W hW => Same_4 x y l l' F w.heap.size W1.heap.size W (hbx.below (hb3.trans (hW.mono hb3.size))) (hby.below (hb3.trans (hW.mono hb3.size)))) ?_
    refine Asks.cons (run_call Tryz.func54 (by kernel_rfl) (by kernel_rfl) _) (fun W hW => Same_5 x y l l' F w.heap.size W1.heap.size W (hbx.below (hb3.trans (hW.mono hb3.size))) (hby.below (hb3.trans (hW.mono hb3.size))) (HON W hW).1 (HON W hW).2.1 (HON W hW).2.2 hR) ?_
    exact Asks.nil _
  have HC := Lib.hid (fields_any _ _ W2.heap.size 5 W3 hbf rfl rfl (by omega) HA)
  have HE : Hid (([eqL It.sameB x.items y.items, eqL eqM x.promos y.promos, eqX x.tax y.tax, eqW x.ship y.ship, eqP x.policy y.policy].all id) = eqR x y) := Lib.hid (by simp only [List.all_cons, List.all_nil, id, Bool.and_true]; unfold eqR; simp only [Bool.and_assoc])
  have HB := Lib.hid (hB.trans (hb3.mono hB.size))
  clear hx hy hF hB hbx hby hb3 hbf HON HA
  go_enter Tryz.func16, Tryz.ntmps16
  go_wp2_with fail
  refine HC.out.mono ?_
  rintro e w1 ⟨rfl, hb⟩
  have HB2 := Lib.hid (HB.out.trans (hb.mono HB.out.size))
  clear hb
  rw [HE.out]
  go_wp2
  go_ret
  exact ⟨rfl, HB2.out⟩
end Go.Proofs.YtfcmhgneijipgaaGreat.Ru

end

section
set_option maxRecDepth 100000
set_option linter.unusedVariables false
namespace Go.Proofs.YtfcmhgneijipgaaGreat.Ru
open Go.ChangeShapes Go.WideShapes Go.ChangeAt Go.RowKit
open Ap (CtR Zon Txs Shp Pol Rls Prm Prt kCtR kZon kPrm kPrt row_CtR row_Zon row_Prm)
open Kd (Row Lst Sl Fit Agree kInt row_int)
def plainR (m : Int) : Rls := ⟨[], [], ⟨false, false, 0, []⟩, ⟨0, 0⟩, ⟨0, 0, m, 0, [], []⟩⟩
def plainL : Rls.Lay := ⟨⟨none, 0, 0⟩, ⟨none, 0, 0⟩, ⟨⟨none, 0, 0⟩⟩, ⟨⟨none, 0, 0⟩, ⟨none, 0, 0⟩⟩⟩
theorem nil_lst {α : Type} (K : Kd.Kind α) (w : World) (F : Nat → Prop) : Lst K w F ⟨none, 0, 0⟩ [] := ⟨Row.nil _ _ _ _, fun _ => ⟨rfl, rfl⟩, Nat.le_refl _, by show (0 : Nat) ≤ _; omega⟩
theorem plain_holds (m : Int) (hm : 0 ≤ m ∧ m ≤ 1) (w : World) (F : Nat → Prop) : Rls.Holds w F (plainR m) plainL :=
  ⟨nil_lst _ _ _, nil_lst _ _ _, ⟨⟨by show (-9223372036854775808 : Int) ≤ 0; omega, by show (0 : Int) ≤ 9223372036854775807; omega⟩, nil_lst _ _ _⟩, ⟨⟨by show (-9223372036854775808 : Int) ≤ 0; omega, by show (0 : Int) ≤ 9223372036854775807; omega⟩, by show (-9223372036854775808 : Int) ≤ 0; omega, by show (0 : Int) ≤ 9223372036854775807; omega⟩,
    ⟨⟨by show (-9223372036854775808 : Int) ≤ 0; omega, by show (0 : Int) ≤ 9223372036854775807; omega⟩, ⟨by show (-9223372036854775808 : Int) ≤ 0; omega, by show (0 : Int) ≤ 9223372036854775807; omega⟩, ⟨by show (-9223372036854775808 : Int) ≤ m; omega, by show m ≤ 9223372036854775807; omega⟩, ⟨by show (-9223372036854775808 : Int) ≤ 0; omega, by show (0 : Int) ≤ 9223372036854775807; omega⟩, nil_lst _ _ _, nil_lst _ _ _⟩⟩
theorem plain_small (m : Int) : RulesSmall (plainR m) ∧ SmallR (plainR m) :=
  ⟨⟨by show (0 : Nat) ≤ _; omega, ⟨fun k p h => by simp [plainR] at h, by show (0 : Nat) ≤ _; omega⟩, ⟨fun k z h => by simp [plainR] at h, by show (0 : Nat) ≤ _; omega⟩, by show (0 : Nat) ≤ _; omega, by show (0 : Nat) ≤ _; omega⟩,
   ⟨by show (0 : Nat) ≤ _; omega, by show (0 : Nat) ≤ _; omega, fun p h => by simp [plainR] at h, by show (0 : Nat) ≤ _; omega, fun z h => by simp [plainR] at h, by show (0 : Nat) ≤ _; omega, by show (0 : Nat) ≤ _; omega⟩⟩
theorem nil_zones : zonesB [] = true := zonesB_yes ⟨fun i x h => by simp at h, fun i x y h => by simp at h, by simp⟩
theorem nil_kinds : kindsB [] = true := kindsB_yes ⟨fun i x h => by simp at h, fun i j x y _ h => by simp at h⟩
theorem nil_promos : Pm.promosB [] = true := Pm.promosB_yes ⟨by simp, fun i p h => by simp at h, fun i j p q _ h => by simp at h⟩
theorem nil_goods : Gd.goodB [] = true := Gd.goodB_yes ⟨by simp, fun i x y h => by simp at h, fun i x h => by simp at h⟩
theorem plain_one : rulesB (plainR 1) = true := by
  unfold rulesB plainR taxB
  simp [nil_zones, nil_kinds, nil_promos, nil_goods]
theorem plain_none : rulesB (plainR 0) = false := by
  unfold rulesB plainR taxB
  simp [nil_zones, nil_kinds, nil_promos, nil_goods]
theorem plain_same : eqR (plainR 1) (plainR 1) = true := by
  unfold eqR eqX eqP eqW plainR
  simp [Kd.eqL]
theorem plain_tax : taxB ⟨false, false, 0, []⟩ = true := by
  unfold taxB
  simp [nil_zones]
def zedZ : Zon := ⟨⟨#[122]⟩, [], 0, 0⟩
theorem zed_told : zoneOf [zedZ] ⟨#[122]⟩ = some zedZ := by
  unfold zoneOf
  exact List.find?_cons_of_pos (Sr.same_refl _)
theorem zed_row {w : World} {g : Nat} (h : Qu.Blk w g 41 #[.string ⟨#[122]⟩, .slice none 0 0, .int .i64 0, .int .i64 0]) : Txs.Holds w (· < w.heap.size) ⟨false, false, 0, [zedZ]⟩ ⟨⟨some ⟨g, 0, none⟩, 1, 1⟩⟩ :=
  ⟨⟨by show (-9223372036854775808 : Int) ≤ 0; omega, by show (0 : Int) ≤ 9223372036854775807; omega⟩, ⟨Kd.row_blk (cs := [.string ⟨#[122]⟩, .slice none 0 0, .int .i64 0, .int .i64 0]) h (Kd.Cells.one (Ap.Zon_rep.2 ⟨⟨⟨none, 0, 0⟩⟩, rfl, by show (1 : Nat) ≤ maxLen; unfold maxLen; omega, nil_lst _ _ _, ⟨by show (-9223372036854775808 : Int) ≤ 0; omega, by show (0 : Int) ≤ 9223372036854775807; omega⟩, by show (-9223372036854775808 : Int) ≤ 0; omega, by show (0 : Int) ≤ 9223372036854775807; omega⟩)) rfl h.lt, (fun h => nomatch h), Nat.le_refl _, by show (1 : Nat) ≤ _; omega⟩⟩
set_option maxHeartbeats 8000000 in
theorem awake_any (w : World) : Calls Tryz.prog 9 #[] w fun e w' => e = .returned (.bool true) ∧ Below w.heap.size w w' := by
  obtain ⟨W1, hW1⟩ : ∃ W1, w.alloc (.cells #[.slice none 0 0, .slice none 0 0, .bool false, .bool false, .int .i64 0, .slice none 0 0, .int .i64 0, .int .i64 0, .int .i64 0, .int .i64 0, .int .i64 1, .int .i64 0, .slice none 0 0, .slice none 0 0] 33) = W1 := ⟨_, rfl⟩
  have hb1 : Below w.heap.size w W1 := by rw [← hW1]; exact (Below.refl _ _).alloc (Nat.le_refl _) _
  have hbx : Qu.Blk W1 w.heap.size 33 #[.slice none 0 0, .slice none 0 0, .bool false, .bool false, .int .i64 0, .slice none 0 0, .int .i64 0, .int .i64 0, .int .i64 0, .int .i64 0, .int .i64 1, .int .i64 0, .slice none 0 0, .slice none 0 0] := by rw [← hW1]; exact Qu.Blk.new w _ _
  obtain ⟨W2, hW2⟩ : ∃ W2, W1.alloc (.cells #[.string ⟨#[122]⟩, .slice none 0 0, .int .i64 0, .int .i64 0] 41) = W2 := ⟨_, rfl⟩
  have hb2 : Below W1.heap.size W1 W2 := by rw [← hW2]; exact (Below.refl _ _).alloc (Nat.le_refl _) _
  have hbz : Qu.Blk W2 W1.heap.size 41 #[.string ⟨#[122]⟩, .slice none 0 0, .int .i64 0, .int .i64 0] := by rw [← hW2]; exact Qu.Blk.new W1 _ _
  have HZ := Lib.hid (zone_any ⟨false, false, 0, [zedZ]⟩ ⟨⟨some ⟨W1.heap.size, 0, none⟩, 1, 1⟩⟩ ⟨#[122]⟩ W2 (zed_row hbz) (fun k z h => by
    have : z = zedZ := List.mem_singleton.1 (List.mem_of_getElem? h)
    subst this
    show (0 : Nat) ≤ _
    omega) (by show (1 : Nat) ≤ _; omega))
  have HR1 : Hid (∀ W, Calls Tryz.prog 11 #[.agg #[.slice none 0 0, .slice none 0 0, .bool false, .bool false, .int .i64 0, .slice none 0 0, .int .i64 0, .int .i64 0, .int .i64 0, .int .i64 0, .int .i64 1, .int .i64 0, .slice none 0 0, .slice none 0 0]] W fun e w' => e = .returned (.bool true) ∧ Below W.heap.size W w') := Lib.hid fun W => (right_any (plainR 1) plainL W (plain_holds 1 (by omega) W _) (plain_small 1).1).mono fun e w' he => by rw [plain_one] at he; exact he
  have HR0 : Hid (∀ W, Calls Tryz.prog 11 #[.agg #[.slice none 0 0, .slice none 0 0, .bool false, .bool false, .int .i64 0, .slice none 0 0, .int .i64 0, .int .i64 0, .int .i64 0, .int .i64 0, .int .i64 0, .int .i64 0, .slice none 0 0, .slice none 0 0]] W fun e w' => e = .returned (.bool false) ∧ Below W.heap.size W w') := Lib.hid fun W => (right_any (plainR 0) plainL W (plain_holds 0 (by omega) W _) (plain_small 0).1).mono fun e w' he => by rw [plain_none] at he; exact he
  have HS : Hid (∀ W, Calls Tryz.prog 16 #[.agg #[.slice none 0 0, .slice none 0 0, .bool false, .bool false, .int .i64 0, .slice none 0 0, .int .i64 0, .int .i64 0, .int .i64 0, .int .i64 0, .int .i64 1, .int .i64 0, .slice none 0 0, .slice none 0 0], .agg #[.slice none 0 0, .slice none 0 0, .bool false, .bool false, .int .i64 0, .slice none 0 0, .int .i64 0, .int .i64 0, .int .i64 0, .int .i64 0, .int .i64 1, .int .i64 0, .slice none 0 0, .slice none 0 0]] W fun e w' => e = .returned (.bool true) ∧ Below W.heap.size W w') := Lib.hid fun W => (rules_sameL (plainR 1) (plainR 1) plainL plainL (fun b => b < W.heap.size) W (plain_holds 1 (by omega) W _) (plain_holds 1 (by omega) W _) (fun b hb => hb) (plain_small 1).2).mono fun e w' he => by rw [plain_same] at he; exact he
  have HRt : Hid (∀ W, Calls Tryz.prog 24 #[.agg #[.string ⟨#[]⟩, .slice none 0 0, .int .i64 5, .int .i64 0], .string ⟨#[120]⟩] W fun e w' => e = .returned (.int .i64 5) ∧ Below W.heap.size W w') := Lib.hid fun W => rate_any ⟨⟨#[]⟩, [], 5, 0⟩ ⟨⟨none, 0, 0⟩⟩ ⟨#[120]⟩ W ⟨by show (0 : Nat) ≤ maxLen; unfold maxLen; omega, nil_lst _ _ _, ⟨by show (-9223372036854775808 : Int) ≤ 5; omega, by show (5 : Int) ≤ 9223372036854775807; omega⟩, by show (-9223372036854775808 : Int) ≤ 0; omega, by show (0 : Int) ≤ 9223372036854775807; omega⟩ (by show (0 : Nat) ≤ _; omega)
  have HT : Hid (∀ W, Calls Tryz.prog 13 #[.agg #[.bool false, .bool false, .int .i64 0, .slice none 0 0]] W fun e w' => e = .returned (.bool true) ∧ Below W.heap.size W w') := Lib.hid fun W => (tax_any ⟨false, false, 0, []⟩ ⟨⟨none, 0, 0⟩⟩ W ⟨⟨by show (-9223372036854775808 : Int) ≤ 0; omega, by show (0 : Int) ≤ 9223372036854775807; omega⟩, nil_lst _ _ _⟩ (fun k z h => by simp at h) (by show (0 : Nat) ≤ _; omega)).mono fun e w' he => by rw [plain_tax] at he; exact he
  have HB := Lib.hid (And.intro (hb1.trans (hb2.mono hb1.size)) (hbx.below hb2))
  have HW1 := Lib.hid hW1
  clear hb1 hbx hb2 hbz hW1
  go_enter Tryz.func9, Tryz.ntmps9
  go_upto_region 2 with (fail)
  rw [HW1.out]
  go_wp2_with fail
  refine HZ.out.mono ?_
  rintro e w3 hT
  unfold ToldY at hT
  rw [zed_told] at hT
  obtain ⟨hb3, lz, _, rfl⟩ := hT
  obtain ⟨W4, hW4⟩ : ∃ W4, w3.alloc (.cells #[.string ⟨#[122]⟩, .slice lz.rates.A lz.rates.n lz.rates.c, .int .i64 0, .int .i64 0] 41) = W4 := ⟨_, rfl⟩
  have hb4 : Below w3.heap.size w3 W4 := by rw [← hW4]; exact (Below.refl _ _).alloc (Nat.le_refl _) _
  have HB4 := Lib.hid (And.intro (HB.out.1.trans ((hb3.trans (hb4.mono hb3.size)).mono HB.out.1.size)) ((HB.out.2.below hb3).below hb4))
  have HW4 := Lib.hid hW4
  clear hb3 hb4 hW2 hW4
  have x0 : W4.cell? ⟨w.heap.size, 0, none⟩ = some (.slice none 0 0) := HB4.out.2.cell 0
  have x1 : W4.cell? ⟨w.heap.size, 1, none⟩ = some (.slice none 0 0) := HB4.out.2.cell 1
  have x2 : W4.cell? ⟨w.heap.size, 2, none⟩ = some (.bool false) := HB4.out.2.cell 2
  have x3 : W4.cell? ⟨w.heap.size, 3, none⟩ = some (.bool false) := HB4.out.2.cell 3
  have x4 : W4.cell? ⟨w.heap.size, 4, none⟩ = some (.int .i64 0) := HB4.out.2.cell 4
  have x5 : W4.cell? ⟨w.heap.size, 5, none⟩ = some (.slice none 0 0) := HB4.out.2.cell 5
  have x6 : W4.cell? ⟨w.heap.size, 6, none⟩ = some (.int .i64 0) := HB4.out.2.cell 6
  have x7 : W4.cell? ⟨w.heap.size, 7, none⟩ = some (.int .i64 0) := HB4.out.2.cell 7
  have x8 : W4.cell? ⟨w.heap.size, 8, none⟩ = some (.int .i64 0) := HB4.out.2.cell 8
  have x9 : W4.cell? ⟨w.heap.size, 9, none⟩ = some (.int .i64 0) := HB4.out.2.cell 9
  have x10 : W4.cell? ⟨w.heap.size, 10, none⟩ = some (.int .i64 1) := HB4.out.2.cell 10
  have x11 : W4.cell? ⟨w.heap.size, 11, none⟩ = some (.int .i64 0) := HB4.out.2.cell 11
  have x12 : W4.cell? ⟨w.heap.size, 12, none⟩ = some (.slice none 0 0) := HB4.out.2.cell 12
  have x13 : W4.cell? ⟨w.heap.size, 13, none⟩ = some (.slice none 0 0) := HB4.out.2.cell 13
  unfold cellsZ zedZ
  go_upto_region 3 with (fail)
  rw [HW4.out]
  go_wp2_with fail
  refine (HR1.out _).mono ?_
  rintro e w5 ⟨rfl, hb5⟩
  have HB5 := Lib.hid (And.intro (HB4.out.1.trans (hb5.mono HB4.out.1.size)) (HB4.out.2.below hb5))
  clear hb5
  go_wp2_with fail
  refine (HR0.out _).mono ?_
  rintro e w6 ⟨rfl, hb6⟩
  have HB6 := Lib.hid (And.intro (HB5.out.1.trans (hb6.mono HB5.out.1.size)) (HB5.out.2.below hb6))
  clear hb6
  have x0 : w6.cell? ⟨w.heap.size, 0, none⟩ = some (.slice none 0 0) := HB6.out.2.cell 0
  have x1 : w6.cell? ⟨w.heap.size, 1, none⟩ = some (.slice none 0 0) := HB6.out.2.cell 1
  have x2 : w6.cell? ⟨w.heap.size, 2, none⟩ = some (.bool false) := HB6.out.2.cell 2
  have x3 : w6.cell? ⟨w.heap.size, 3, none⟩ = some (.bool false) := HB6.out.2.cell 3
  have x4 : w6.cell? ⟨w.heap.size, 4, none⟩ = some (.int .i64 0) := HB6.out.2.cell 4
  have x5 : w6.cell? ⟨w.heap.size, 5, none⟩ = some (.slice none 0 0) := HB6.out.2.cell 5
  have x6 : w6.cell? ⟨w.heap.size, 6, none⟩ = some (.int .i64 0) := HB6.out.2.cell 6
  have x7 : w6.cell? ⟨w.heap.size, 7, none⟩ = some (.int .i64 0) := HB6.out.2.cell 7
  have x8 : w6.cell? ⟨w.heap.size, 8, none⟩ = some (.int .i64 0) := HB6.out.2.cell 8
  have x9 : w6.cell? ⟨w.heap.size, 9, none⟩ = some (.int .i64 0) := HB6.out.2.cell 9
  have x10 : w6.cell? ⟨w.heap.size, 10, none⟩ = some (.int .i64 1) := HB6.out.2.cell 10
  have x11 : w6.cell? ⟨w.heap.size, 11, none⟩ = some (.int .i64 0) := HB6.out.2.cell 11
  have x12 : w6.cell? ⟨w.heap.size, 12, none⟩ = some (.slice none 0 0) := HB6.out.2.cell 12
  have x13 : w6.cell? ⟨w.heap.size, 13, none⟩ = some (.slice none 0 0) := HB6.out.2.cell 13
  go_wp2_with fail
  refine (HS.out _).mono ?_
  rintro e w7 ⟨rfl, hb7⟩
  have HB7 := Lib.hid (And.intro (HB6.out.1.trans (hb7.mono HB6.out.1.size)) (HB6.out.2.below hb7))
  clear hb7
  go_wp2_with fail
  refine (HRt.out _).mono ?_
  rintro e w8 ⟨rfl, hb8⟩
  have HB8 := Lib.hid (HB7.out.1.trans (hb8.mono HB7.out.1.size))
  clear hb8
  go_wp2_with fail
  refine (HT.out _).mono ?_
  rintro e w9 ⟨rfl, hb9⟩
  have HB9 := Lib.hid (HB8.out.trans (hb9.mono HB8.out.size))
  clear hb9
  go_wp2
  go_ret
  exact ⟨rfl, HB9.out⟩
end Go.Proofs.YtfcmhgneijipgaaGreat.Ru

end

section
set_option maxRecDepth 100000
set_option linter.unusedVariables false
namespace Go.Proofs.YtfcmhgneijipgaaGreat.Py
open Go.ChangeShapes Go.WideShapes Go.ChangeAt Go.RowKit
theorem chr_list (c : Nat) : (chr c).toList = [UInt8.ofNat c] := by unfold chr; exact By.strOf_list _
theorem chr_data (c : Nat) : (chr c).data.toList = [UInt8.ofNat c] := by rw [← ByteArray.toList_eq]; exact chr_list c
theorem chr_size (c : Nat) : (chr c).size = 1 := by unfold chr; rw [By.strOf_size]; rfl
theorem chr_lt {a b : Nat} (h : a < b) (hb : b < 256) : Sr.lt (chr a) (chr b) = true := by
  unfold Sr.lt
  rw [chr_list, chr_list]
  have h1 : UInt8.ofNat a < UInt8.ofNat b := by
    rw [UInt8.lt_iff_toNat_lt, By.toNat_small (by omega), By.toNat_small hb]; exact h
  simp [Op.bytesLess, h1]
theorem chr_name {a : Nat} (h : Sr.plain (a : Int) = true) (ha : a < 256) : Sr.name (chr a) = true := by
  unfold Sr.name Sr.nameL
  rw [chr_data]
  simp [By.toNat_small ha, h]
theorem sku_name {k : Nat} (h : k < 26) : Sr.name (skuS k) = true := chr_name (by unfold Sr.plain; simp; omega) (by omega)
theorem cat_name {k : Nat} (h : k < 3) : Sr.name (catS k) = true := chr_name (by unfold Sr.plain; simp; omega) (by omega)
theorem take_more {α : Type} {l : List α} {k : Nat} {x : α} (h : l[k]? = some x) : l.take (k + 1) = l.take k ++ [x] := by
  rw [List.take_add_one, h]; rfl
end Go.Proofs.YtfcmhgneijipgaaGreat.Py

end
