/- The landed rules: two promotions held against each other, and lists of them. (made by wip/gen-closures.py) -/
import Derived.Test.YtfcmhgneijipgaaGreatPk22
import Derived.Test.YtfcmhgneijipgaaGreatPk26

set_option maxRecDepth 100000
set_option linter.unusedVariables false
namespace Go.Proofs.YtfcmhgneijipgaaGreat.Ru
open Go.ChangeShapes Go.WideShapes Go.ChangeAt Go.RowKit
open Ap (CtR Tir Zon Txs Shp Pol Rls Scp Prt Prm kCtR kZon kPrt kPrm row_CtR row_Zon row_Prt row_Prm)
open Kd (Row Lst Sl eqL Two rows_get eqL_no eqL_yes eqL_len Agree)
open Hp (eqI ag_of)
set_option maxHeartbeats 2000000 in
theorem samePromo_1 (x y : Prm) (l l' : Prm.Lay) (F : Nat → Prop) (p q : Nat) (w : World) (hbx : Qu.Blk w p 51 #[.string x.id, .int .i64 x.kind, .int .i64 x.priority, .string x.group, .string x.code, .bool x.closes, .slice l.scope.skus.A l.scope.skus.n l.scope.skus.c, .slice l.scope.cats.A l.scope.cats.n l.scope.cats.c, .int .i64 x.least, .int .i64 x.rate, .int .i64 x.amount, .int .i64 x.buy, .int .i64 x.get, .slice l.parts.A l.parts.n l.parts.c, .slice l.tiers.A l.tiers.n l.tiers.c]) (hby : Qu.Blk w q 51 #[.string y.id, .int .i64 y.kind, .int .i64 y.priority, .string y.group, .string y.code, .bool y.closes, .slice l'.scope.skus.A l'.scope.skus.n l'.scope.skus.c, .slice l'.scope.cats.A l'.scope.cats.n l'.scope.cats.c, .int .i64 y.least, .int .i64 y.rate, .int .i64 y.amount, .int .i64 y.buy, .int .i64 y.get, .slice l'.parts.A l'.parts.n l'.parts.c, .slice l'.tiers.A l'.tiers.n l'.tiers.c]) :
    Calls Tryz.prog 82 #[.pointer (some ⟨p, 0, none⟩), .pointer (some ⟨q, 0, none⟩)] w fun e w' => e = .returned (.bool (Sr.same x.id y.id)) ∧ Below w.heap.size w w' := by
  have x0 := hbx.cell 0
  have y0 := hby.cell 0
  clear hbx hby
  go_enter Tryz.func82, Tryz.ntmps82
  go_wp2
  all_goals (go_ret; exact ⟨by first | rfl | simp [Sr.same, *], Below.refl _ _⟩)
set_option maxHeartbeats 2000000 in
theorem samePromo_2 (x y : Prm) (l l' : Prm.Lay) (F : Nat → Prop) (p q : Nat) (w : World) (hbx : Qu.Blk w p 51 #[.string x.id, .int .i64 x.kind, .int .i64 x.priority, .string x.group, .string x.code, .bool x.closes, .slice l.scope.skus.A l.scope.skus.n l.scope.skus.c, .slice l.scope.cats.A l.scope.cats.n l.scope.cats.c, .int .i64 x.least, .int .i64 x.rate, .int .i64 x.amount, .int .i64 x.buy, .int .i64 x.get, .slice l.parts.A l.parts.n l.parts.c, .slice l.tiers.A l.tiers.n l.tiers.c]) (hby : Qu.Blk w q 51 #[.string y.id, .int .i64 y.kind, .int .i64 y.priority, .string y.group, .string y.code, .bool y.closes, .slice l'.scope.skus.A l'.scope.skus.n l'.scope.skus.c, .slice l'.scope.cats.A l'.scope.cats.n l'.scope.cats.c, .int .i64 y.least, .int .i64 y.rate, .int .i64 y.amount, .int .i64 y.buy, .int .i64 y.get, .slice l'.parts.A l'.parts.n l'.parts.c, .slice l'.tiers.A l'.tiers.n l'.tiers.c]) :
    Calls Tryz.prog 83 #[.pointer (some ⟨p, 0, none⟩), .pointer (some ⟨q, 0, none⟩)] w fun e w' => e = .returned (.bool (x.kind == y.kind)) ∧ Below w.heap.size w w' := by
  have x1 := hbx.cell 1
  have y1 := hby.cell 1
  clear hbx hby
  go_enter Tryz.func83, Tryz.ntmps83
  go_wp2
  all_goals (go_ret; exact ⟨by first | rfl | simp [Sr.same, *], Below.refl _ _⟩)
set_option maxHeartbeats 2000000 in
theorem samePromo_3 (x y : Prm) (l l' : Prm.Lay) (F : Nat → Prop) (p q : Nat) (w : World) (hbx : Qu.Blk w p 51 #[.string x.id, .int .i64 x.kind, .int .i64 x.priority, .string x.group, .string x.code, .bool x.closes, .slice l.scope.skus.A l.scope.skus.n l.scope.skus.c, .slice l.scope.cats.A l.scope.cats.n l.scope.cats.c, .int .i64 x.least, .int .i64 x.rate, .int .i64 x.amount, .int .i64 x.buy, .int .i64 x.get, .slice l.parts.A l.parts.n l.parts.c, .slice l.tiers.A l.tiers.n l.tiers.c]) (hby : Qu.Blk w q 51 #[.string y.id, .int .i64 y.kind, .int .i64 y.priority, .string y.group, .string y.code, .bool y.closes, .slice l'.scope.skus.A l'.scope.skus.n l'.scope.skus.c, .slice l'.scope.cats.A l'.scope.cats.n l'.scope.cats.c, .int .i64 y.least, .int .i64 y.rate, .int .i64 y.amount, .int .i64 y.buy, .int .i64 y.get, .slice l'.parts.A l'.parts.n l'.parts.c, .slice l'.tiers.A l'.tiers.n l'.tiers.c]) :
    Calls Tryz.prog 84 #[.pointer (some ⟨p, 0, none⟩), .pointer (some ⟨q, 0, none⟩)] w fun e w' => e = .returned (.bool (x.priority == y.priority)) ∧ Below w.heap.size w w' := by
  have x2 := hbx.cell 2
  have y2 := hby.cell 2
  clear hbx hby
  go_enter Tryz.func84, Tryz.ntmps84
  go_wp2
  all_goals (go_ret; exact ⟨by first | rfl | simp [Sr.same, *], Below.refl _ _⟩)
set_option maxHeartbeats 2000000 in
theorem samePromo_4 (x y : Prm) (l l' : Prm.Lay) (F : Nat → Prop) (p q : Nat) (w : World) (hbx : Qu.Blk w p 51 #[.string x.id, .int .i64 x.kind, .int .i64 x.priority, .string x.group, .string x.code, .bool x.closes, .slice l.scope.skus.A l.scope.skus.n l.scope.skus.c, .slice l.scope.cats.A l.scope.cats.n l.scope.cats.c, .int .i64 x.least, .int .i64 x.rate, .int .i64 x.amount, .int .i64 x.buy, .int .i64 x.get, .slice l.parts.A l.parts.n l.parts.c, .slice l.tiers.A l.tiers.n l.tiers.c]) (hby : Qu.Blk w q 51 #[.string y.id, .int .i64 y.kind, .int .i64 y.priority, .string y.group, .string y.code, .bool y.closes, .slice l'.scope.skus.A l'.scope.skus.n l'.scope.skus.c, .slice l'.scope.cats.A l'.scope.cats.n l'.scope.cats.c, .int .i64 y.least, .int .i64 y.rate, .int .i64 y.amount, .int .i64 y.buy, .int .i64 y.get, .slice l'.parts.A l'.parts.n l'.parts.c, .slice l'.tiers.A l'.tiers.n l'.tiers.c]) :
    Calls Tryz.prog 85 #[.pointer (some ⟨p, 0, none⟩), .pointer (some ⟨q, 0, none⟩)] w fun e w' => e = .returned (.bool (Sr.same x.group y.group)) ∧ Below w.heap.size w w' := by
  have x3 := hbx.cell 3
  have y3 := hby.cell 3
  clear hbx hby
  go_enter Tryz.func85, Tryz.ntmps85
  go_wp2
  all_goals (go_ret; exact ⟨by first | rfl | simp [Sr.same, *], Below.refl _ _⟩)
set_option maxHeartbeats 2000000 in
theorem samePromo_5 (x y : Prm) (l l' : Prm.Lay) (F : Nat → Prop) (p q : Nat) (w : World) (hbx : Qu.Blk w p 51 #[.string x.id, .int .i64 x.kind, .int .i64 x.priority, .string x.group, .string x.code, .bool x.closes, .slice l.scope.skus.A l.scope.skus.n l.scope.skus.c, .slice l.scope.cats.A l.scope.cats.n l.scope.cats.c, .int .i64 x.least, .int .i64 x.rate, .int .i64 x.amount, .int .i64 x.buy, .int .i64 x.get, .slice l.parts.A l.parts.n l.parts.c, .slice l.tiers.A l.tiers.n l.tiers.c]) (hby : Qu.Blk w q 51 #[.string y.id, .int .i64 y.kind, .int .i64 y.priority, .string y.group, .string y.code, .bool y.closes, .slice l'.scope.skus.A l'.scope.skus.n l'.scope.skus.c, .slice l'.scope.cats.A l'.scope.cats.n l'.scope.cats.c, .int .i64 y.least, .int .i64 y.rate, .int .i64 y.amount, .int .i64 y.buy, .int .i64 y.get, .slice l'.parts.A l'.parts.n l'.parts.c, .slice l'.tiers.A l'.tiers.n l'.tiers.c]) :
    Calls Tryz.prog 86 #[.pointer (some ⟨p, 0, none⟩), .pointer (some ⟨q, 0, none⟩)] w fun e w' => e = .returned (.bool (Sr.same x.code y.code)) ∧ Below w.heap.size w w' := by
  have x4 := hbx.cell 4
  have y4 := hby.cell 4
  clear hbx hby
  go_enter Tryz.func86, Tryz.ntmps86
  go_wp2
  all_goals (go_ret; exact ⟨by first | rfl | simp [Sr.same, *], Below.refl _ _⟩)
set_option maxHeartbeats 2000000 in
theorem samePromo_6 (x y : Prm) (l l' : Prm.Lay) (F : Nat → Prop) (p q : Nat) (w : World) (hbx : Qu.Blk w p 51 #[.string x.id, .int .i64 x.kind, .int .i64 x.priority, .string x.group, .string x.code, .bool x.closes, .slice l.scope.skus.A l.scope.skus.n l.scope.skus.c, .slice l.scope.cats.A l.scope.cats.n l.scope.cats.c, .int .i64 x.least, .int .i64 x.rate, .int .i64 x.amount, .int .i64 x.buy, .int .i64 x.get, .slice l.parts.A l.parts.n l.parts.c, .slice l.tiers.A l.tiers.n l.tiers.c]) (hby : Qu.Blk w q 51 #[.string y.id, .int .i64 y.kind, .int .i64 y.priority, .string y.group, .string y.code, .bool y.closes, .slice l'.scope.skus.A l'.scope.skus.n l'.scope.skus.c, .slice l'.scope.cats.A l'.scope.cats.n l'.scope.cats.c, .int .i64 y.least, .int .i64 y.rate, .int .i64 y.amount, .int .i64 y.buy, .int .i64 y.get, .slice l'.parts.A l'.parts.n l'.parts.c, .slice l'.tiers.A l'.tiers.n l'.tiers.c]) :
    Calls Tryz.prog 87 #[.pointer (some ⟨p, 0, none⟩), .pointer (some ⟨q, 0, none⟩)] w fun e w' => e = .returned (.bool (x.closes == y.closes)) ∧ Below w.heap.size w w' := by
  have x5 := hbx.cell 5
  have y5 := hby.cell 5
  clear hbx hby
  go_enter Tryz.func87, Tryz.ntmps87
  go_wp2
  all_goals (go_ret; exact ⟨by first | rfl | simp [Sr.same, *], Below.refl _ _⟩)
set_option maxHeartbeats 2000000 in
theorem samePromo_7 (x y : Prm) (l l' : Prm.Lay) (F : Nat → Prop) (p q : Nat) (w : World) (hbx : Qu.Blk w p 51 #[.string x.id, .int .i64 x.kind, .int .i64 x.priority, .string x.group, .string x.code, .bool x.closes, .slice l.scope.skus.A l.scope.skus.n l.scope.skus.c, .slice l.scope.cats.A l.scope.cats.n l.scope.cats.c, .int .i64 x.least, .int .i64 x.rate, .int .i64 x.amount, .int .i64 x.buy, .int .i64 x.get, .slice l.parts.A l.parts.n l.parts.c, .slice l.tiers.A l.tiers.n l.tiers.c]) (hby : Qu.Blk w q 51 #[.string y.id, .int .i64 y.kind, .int .i64 y.priority, .string y.group, .string y.code, .bool y.closes, .slice l'.scope.skus.A l'.scope.skus.n l'.scope.skus.c, .slice l'.scope.cats.A l'.scope.cats.n l'.scope.cats.c, .int .i64 y.least, .int .i64 y.rate, .int .i64 y.amount, .int .i64 y.buy, .int .i64 y.get, .slice l'.parts.A l'.parts.n l'.parts.c, .slice l'.tiers.A l'.tiers.n l'.tiers.c]) (hx : Prm.Holds w F x l) (hy : Prm.Holds w F y l') (hF : ∀ b, F b → b < w.heap.size) (hP : SmallP x) :
    Calls Tryz.prog 88 #[.pointer (some ⟨p, 0, none⟩), .pointer (some ⟨q, 0, none⟩)] w fun e w' => e = .returned (.bool (eqS x.scope y.scope)) ∧ Below w.heap.size w w' := by
  have x6 := hbx.cell 6
  have y6 := hby.cell 6
  have x7 := hbx.cell 7
  have y7 := hby.cell 7
  have HC := Lib.hid (scope_sameL x.scope y.scope l.scope l'.scope F w hx.scope hy.scope hF hP.scope.1 hP.scope.2)
  clear hx hy hF hbx hby
  go_enter Tryz.func88, Tryz.ntmps88
  go_wp2_with fail
  refine HC.out.mono ?_
  rintro e w1 ⟨rfl, hb⟩
  have HB := Lib.hid hb
  clear hb
  go_wp2
  go_ret
  exact ⟨rfl, HB.out⟩
set_option maxHeartbeats 2000000 in
theorem samePromo_8 (x y : Prm) (l l' : Prm.Lay) (F : Nat → Prop) (p q : Nat) (w : World) (hbx : Qu.Blk w p 51 #[.string x.id, .int .i64 x.kind, .int .i64 x.priority, .string x.group, .string x.code, .bool x.closes, .slice l.scope.skus.A l.scope.skus.n l.scope.skus.c, .slice l.scope.cats.A l.scope.cats.n l.scope.cats.c, .int .i64 x.least, .int .i64 x.rate, .int .i64 x.amount, .int .i64 x.buy, .int .i64 x.get, .slice l.parts.A l.parts.n l.parts.c, .slice l.tiers.A l.tiers.n l.tiers.c]) (hby : Qu.Blk w q 51 #[.string y.id, .int .i64 y.kind, .int .i64 y.priority, .string y.group, .string y.code, .bool y.closes, .slice l'.scope.skus.A l'.scope.skus.n l'.scope.skus.c, .slice l'.scope.cats.A l'.scope.cats.n l'.scope.cats.c, .int .i64 y.least, .int .i64 y.rate, .int .i64 y.amount, .int .i64 y.buy, .int .i64 y.get, .slice l'.parts.A l'.parts.n l'.parts.c, .slice l'.tiers.A l'.tiers.n l'.tiers.c]) :
    Calls Tryz.prog 90 #[.pointer (some ⟨p, 0, none⟩), .pointer (some ⟨q, 0, none⟩)] w fun e w' => e = .returned (.bool (x.least == y.least)) ∧ Below w.heap.size w w' := by
  have x8 := hbx.cell 8
  have y8 := hby.cell 8
  clear hbx hby
  go_enter Tryz.func90, Tryz.ntmps90
  go_wp2
  all_goals (go_ret; exact ⟨by first | rfl | simp [Sr.same, *], Below.refl _ _⟩)
set_option maxHeartbeats 2000000 in
theorem samePromo_9 (x y : Prm) (l l' : Prm.Lay) (F : Nat → Prop) (p q : Nat) (w : World) (hbx : Qu.Blk w p 51 #[.string x.id, .int .i64 x.kind, .int .i64 x.priority, .string x.group, .string x.code, .bool x.closes, .slice l.scope.skus.A l.scope.skus.n l.scope.skus.c, .slice l.scope.cats.A l.scope.cats.n l.scope.cats.c, .int .i64 x.least, .int .i64 x.rate, .int .i64 x.amount, .int .i64 x.buy, .int .i64 x.get, .slice l.parts.A l.parts.n l.parts.c, .slice l.tiers.A l.tiers.n l.tiers.c]) (hby : Qu.Blk w q 51 #[.string y.id, .int .i64 y.kind, .int .i64 y.priority, .string y.group, .string y.code, .bool y.closes, .slice l'.scope.skus.A l'.scope.skus.n l'.scope.skus.c, .slice l'.scope.cats.A l'.scope.cats.n l'.scope.cats.c, .int .i64 y.least, .int .i64 y.rate, .int .i64 y.amount, .int .i64 y.buy, .int .i64 y.get, .slice l'.parts.A l'.parts.n l'.parts.c, .slice l'.tiers.A l'.tiers.n l'.tiers.c]) :
    Calls Tryz.prog 91 #[.pointer (some ⟨p, 0, none⟩), .pointer (some ⟨q, 0, none⟩)] w fun e w' => e = .returned (.bool (x.rate == y.rate)) ∧ Below w.heap.size w w' := by
  have x9 := hbx.cell 9
  have y9 := hby.cell 9
  clear hbx hby
  go_enter Tryz.func91, Tryz.ntmps91
  go_wp2
  all_goals (go_ret; exact ⟨by first | rfl | simp [Sr.same, *], Below.refl _ _⟩)
set_option maxHeartbeats 2000000 in
theorem samePromo_10 (x y : Prm) (l l' : Prm.Lay) (F : Nat → Prop) (p q : Nat) (w : World) (hbx : Qu.Blk w p 51 #[.string x.id, .int .i64 x.kind, .int .i64 x.priority, .string x.group, .string x.code, .bool x.closes, .slice l.scope.skus.A l.scope.skus.n l.scope.skus.c, .slice l.scope.cats.A l.scope.cats.n l.scope.cats.c, .int .i64 x.least, .int .i64 x.rate, .int .i64 x.amount, .int .i64 x.buy, .int .i64 x.get, .slice l.parts.A l.parts.n l.parts.c, .slice l.tiers.A l.tiers.n l.tiers.c]) (hby : Qu.Blk w q 51 #[.string y.id, .int .i64 y.kind, .int .i64 y.priority, .string y.group, .string y.code, .bool y.closes, .slice l'.scope.skus.A l'.scope.skus.n l'.scope.skus.c, .slice l'.scope.cats.A l'.scope.cats.n l'.scope.cats.c, .int .i64 y.least, .int .i64 y.rate, .int .i64 y.amount, .int .i64 y.buy, .int .i64 y.get, .slice l'.parts.A l'.parts.n l'.parts.c, .slice l'.tiers.A l'.tiers.n l'.tiers.c]) :
    Calls Tryz.prog 92 #[.pointer (some ⟨p, 0, none⟩), .pointer (some ⟨q, 0, none⟩)] w fun e w' => e = .returned (.bool (x.amount == y.amount)) ∧ Below w.heap.size w w' := by
  have x10 := hbx.cell 10
  have y10 := hby.cell 10
  clear hbx hby
  go_enter Tryz.func92, Tryz.ntmps92
  go_wp2
  all_goals (go_ret; exact ⟨by first | rfl | simp [Sr.same, *], Below.refl _ _⟩)
set_option maxHeartbeats 2000000 in
theorem samePromo_11 (x y : Prm) (l l' : Prm.Lay) (F : Nat → Prop) (p q : Nat) (w : World) (hbx : Qu.Blk w p 51 #[.string x.id, .int .i64 x.kind, .int .i64 x.priority, .string x.group, .string x.code, .bool x.closes, .slice l.scope.skus.A l.scope.skus.n l.scope.skus.c, .slice l.scope.cats.A l.scope.cats.n l.scope.cats.c, .int .i64 x.least, .int .i64 x.rate, .int .i64 x.amount, .int .i64 x.buy, .int .i64 x.get, .slice l.parts.A l.parts.n l.parts.c, .slice l.tiers.A l.tiers.n l.tiers.c]) (hby : Qu.Blk w q 51 #[.string y.id, .int .i64 y.kind, .int .i64 y.priority, .string y.group, .string y.code, .bool y.closes, .slice l'.scope.skus.A l'.scope.skus.n l'.scope.skus.c, .slice l'.scope.cats.A l'.scope.cats.n l'.scope.cats.c, .int .i64 y.least, .int .i64 y.rate, .int .i64 y.amount, .int .i64 y.buy, .int .i64 y.get, .slice l'.parts.A l'.parts.n l'.parts.c, .slice l'.tiers.A l'.tiers.n l'.tiers.c]) :
    Calls Tryz.prog 93 #[.pointer (some ⟨p, 0, none⟩), .pointer (some ⟨q, 0, none⟩)] w fun e w' => e = .returned (.bool (x.buy == y.buy)) ∧ Below w.heap.size w w' := by
  have x11 := hbx.cell 11
  have y11 := hby.cell 11
  clear hbx hby
  go_enter Tryz.func93, Tryz.ntmps93
  go_wp2
  all_goals (go_ret; exact ⟨by first | rfl | simp [Sr.same, *], Below.refl _ _⟩)
set_option maxHeartbeats 2000000 in
theorem samePromo_12 (x y : Prm) (l l' : Prm.Lay) (F : Nat → Prop) (p q : Nat) (w : World) (hbx : Qu.Blk w p 51 #[.string x.id, .int .i64 x.kind, .int .i64 x.priority, .string x.group, .string x.code, .bool x.closes, .slice l.scope.skus.A l.scope.skus.n l.scope.skus.c, .slice l.scope.cats.A l.scope.cats.n l.scope.cats.c, .int .i64 x.least, .int .i64 x.rate, .int .i64 x.amount, .int .i64 x.buy, .int .i64 x.get, .slice l.parts.A l.parts.n l.parts.c, .slice l.tiers.A l.tiers.n l.tiers.c]) (hby : Qu.Blk w q 51 #[.string y.id, .int .i64 y.kind, .int .i64 y.priority, .string y.group, .string y.code, .bool y.closes, .slice l'.scope.skus.A l'.scope.skus.n l'.scope.skus.c, .slice l'.scope.cats.A l'.scope.cats.n l'.scope.cats.c, .int .i64 y.least, .int .i64 y.rate, .int .i64 y.amount, .int .i64 y.buy, .int .i64 y.get, .slice l'.parts.A l'.parts.n l'.parts.c, .slice l'.tiers.A l'.tiers.n l'.tiers.c]) :
    Calls Tryz.prog 94 #[.pointer (some ⟨p, 0, none⟩), .pointer (some ⟨q, 0, none⟩)] w fun e w' => e = .returned (.bool (x.get == y.get)) ∧ Below w.heap.size w w' := by
  have x12 := hbx.cell 12
  have y12 := hby.cell 12
  clear hbx hby
  go_enter Tryz.func94, Tryz.ntmps94
  go_wp2
  all_goals (go_ret; exact ⟨by first | rfl | simp [Sr.same, *], Below.refl _ _⟩)
set_option maxHeartbeats 2000000 in
theorem samePromo_13 (x y : Prm) (l l' : Prm.Lay) (F : Nat → Prop) (p q : Nat) (w : World) (hbx : Qu.Blk w p 51 #[.string x.id, .int .i64 x.kind, .int .i64 x.priority, .string x.group, .string x.code, .bool x.closes, .slice l.scope.skus.A l.scope.skus.n l.scope.skus.c, .slice l.scope.cats.A l.scope.cats.n l.scope.cats.c, .int .i64 x.least, .int .i64 x.rate, .int .i64 x.amount, .int .i64 x.buy, .int .i64 x.get, .slice l.parts.A l.parts.n l.parts.c, .slice l.tiers.A l.tiers.n l.tiers.c]) (hby : Qu.Blk w q 51 #[.string y.id, .int .i64 y.kind, .int .i64 y.priority, .string y.group, .string y.code, .bool y.closes, .slice l'.scope.skus.A l'.scope.skus.n l'.scope.skus.c, .slice l'.scope.cats.A l'.scope.cats.n l'.scope.cats.c, .int .i64 y.least, .int .i64 y.rate, .int .i64 y.amount, .int .i64 y.buy, .int .i64 y.get, .slice l'.parts.A l'.parts.n l'.parts.c, .slice l'.tiers.A l'.tiers.n l'.tiers.c]) (hx : Prm.Holds w F x l) (hy : Prm.Holds w F y l') (hF : ∀ b, F b → b < w.heap.size) (hP : SmallP x) :
    Calls Tryz.prog 95 #[.pointer (some ⟨p, 0, none⟩), .pointer (some ⟨q, 0, none⟩)] w fun e w' => e = .returned (.bool (eqL eqT x.parts y.parts)) ∧ Below w.heap.size w w' := by
  have x13 := hbx.cell 13
  have y13 := hby.cell 13
  have HC := Lib.hid (same_partsL l.parts.A l'.parts.A l.parts.n l'.parts.n l.parts.c l'.parts.c x.parts y.parts F w (hx.parts.row) (hy.parts.row) hF (by have := hx.parts.row.len; have := hP.parts; omega) hP.each)
  clear hx hy hF hbx hby
  go_enter Tryz.func95, Tryz.ntmps95
  go_wp2_with fail
  refine HC.out.mono ?_
  rintro e w1 ⟨rfl, hb⟩
  have HB := Lib.hid hb
  clear hb
  go_wp2
  go_ret
  exact ⟨rfl, HB.out⟩
set_option maxHeartbeats 2000000 in
theorem samePromo_14 (x y : Prm) (l l' : Prm.Lay) (F : Nat → Prop) (p q : Nat) (w : World) (hbx : Qu.Blk w p 51 #[.string x.id, .int .i64 x.kind, .int .i64 x.priority, .string x.group, .string x.code, .bool x.closes, .slice l.scope.skus.A l.scope.skus.n l.scope.skus.c, .slice l.scope.cats.A l.scope.cats.n l.scope.cats.c, .int .i64 x.least, .int .i64 x.rate, .int .i64 x.amount, .int .i64 x.buy, .int .i64 x.get, .slice l.parts.A l.parts.n l.parts.c, .slice l.tiers.A l.tiers.n l.tiers.c]) (hby : Qu.Blk w q 51 #[.string y.id, .int .i64 y.kind, .int .i64 y.priority, .string y.group, .string y.code, .bool y.closes, .slice l'.scope.skus.A l'.scope.skus.n l'.scope.skus.c, .slice l'.scope.cats.A l'.scope.cats.n l'.scope.cats.c, .int .i64 y.least, .int .i64 y.rate, .int .i64 y.amount, .int .i64 y.buy, .int .i64 y.get, .slice l'.parts.A l'.parts.n l'.parts.c, .slice l'.tiers.A l'.tiers.n l'.tiers.c]) (hx : Prm.Holds w F x l) (hy : Prm.Holds w F y l') (hF : ∀ b, F b → b < w.heap.size) (hP : SmallP x) :
    Calls Tryz.prog 98 #[.pointer (some ⟨p, 0, none⟩), .pointer (some ⟨q, 0, none⟩)] w fun e w' => e = .returned (.bool (eqL Tir.sameB x.tiers y.tiers)) ∧ Below w.heap.size w w' := by
  have x14 := hbx.cell 14
  have y14 := hby.cell 14
  have HC := Lib.hid (equalT_any l.tiers.A l'.tiers.A l.tiers.n l'.tiers.n l.tiers.c l'.tiers.c x.tiers y.tiers F w (hx.tiers.row) (hy.tiers.row) hF (by have := hx.tiers.row.len; have := hP.tiers; omega))
  clear hx hy hF hbx hby
  go_enter Tryz.func98, Tryz.ntmps98
  go_wp2_with fail
  refine HC.out.mono ?_
  rintro e w1 ⟨rfl, hb⟩
  have HB := Lib.hid hb
  clear hb
  go_wp2
  go_ret
  exact ⟨rfl, HB.out⟩
set_option maxHeartbeats 4000000 in
theorem promo_sameL (x y : Prm) (l l' : Prm.Lay) (F : Nat → Prop) (w : World) (hx : Prm.Holds w F x l) (hy : Prm.Holds w F y l') (hF : ∀ b, F b → b < w.heap.size) (hP : SmallP x) :
    Calls Tryz.prog 50 #[.agg #[.string x.id, .int .i64 x.kind, .int .i64 x.priority, .string x.group, .string x.code, .bool x.closes, .slice l.scope.skus.A l.scope.skus.n l.scope.skus.c, .slice l.scope.cats.A l.scope.cats.n l.scope.cats.c, .int .i64 x.least, .int .i64 x.rate, .int .i64 x.amount, .int .i64 x.buy, .int .i64 x.get, .slice l.parts.A l.parts.n l.parts.c, .slice l.tiers.A l.tiers.n l.tiers.c], .agg #[.string y.id, .int .i64 y.kind, .int .i64 y.priority, .string y.group, .string y.code, .bool y.closes, .slice l'.scope.skus.A l'.scope.skus.n l'.scope.skus.c, .slice l'.scope.cats.A l'.scope.cats.n l'.scope.cats.c, .int .i64 y.least, .int .i64 y.rate, .int .i64 y.amount, .int .i64 y.buy, .int .i64 y.get, .slice l'.parts.A l'.parts.n l'.parts.c, .slice l'.tiers.A l'.tiers.n l'.tiers.c]] w fun e w' => e = .returned (.bool (eqM x y)) ∧ Below w.heap.size w w' := by
  obtain ⟨W1, hW1⟩ : ∃ W1, w.alloc (.cells #[.string x.id, .int .i64 x.kind, .int .i64 x.priority, .string x.group, .string x.code, .bool x.closes, .slice l.scope.skus.A l.scope.skus.n l.scope.skus.c, .slice l.scope.cats.A l.scope.cats.n l.scope.cats.c, .int .i64 x.least, .int .i64 x.rate, .int .i64 x.amount, .int .i64 x.buy, .int .i64 x.get, .slice l.parts.A l.parts.n l.parts.c, .slice l.tiers.A l.tiers.n l.tiers.c] 51) = W1 := ⟨_, rfl⟩
  obtain ⟨W2, hW2⟩ : ∃ W2, W1.alloc (.cells #[.string y.id, .int .i64 y.kind, .int .i64 y.priority, .string y.group, .string y.code, .bool y.closes, .slice l'.scope.skus.A l'.scope.skus.n l'.scope.skus.c, .slice l'.scope.cats.A l'.scope.cats.n l'.scope.cats.c, .int .i64 y.least, .int .i64 y.rate, .int .i64 y.amount, .int .i64 y.buy, .int .i64 y.get, .slice l'.parts.A l'.parts.n l'.parts.c, .slice l'.tiers.A l'.tiers.n l'.tiers.c] 51) = W2 := ⟨_, rfl⟩
  have hB : Below w.heap.size w W2 := by rw [← hW2, ← hW1]; exact ((Below.refl _ _).alloc (Nat.le_refl _) _).alloc (by simp) _
  have hbx : Qu.Blk W2 w.heap.size 51 #[.string x.id, .int .i64 x.kind, .int .i64 x.priority, .string x.group, .string x.code, .bool x.closes, .slice l.scope.skus.A l.scope.skus.n l.scope.skus.c, .slice l.scope.cats.A l.scope.cats.n l.scope.cats.c, .int .i64 x.least, .int .i64 x.rate, .int .i64 x.amount, .int .i64 x.buy, .int .i64 x.get, .slice l.parts.A l.parts.n l.parts.c, .slice l.tiers.A l.tiers.n l.tiers.c] := by rw [← hW2, ← hW1]; exact (Qu.Blk.new w _ _).alloc _
  have hby : Qu.Blk W2 W1.heap.size 51 #[.string y.id, .int .i64 y.kind, .int .i64 y.priority, .string y.group, .string y.code, .bool y.closes, .slice l'.scope.skus.A l'.scope.skus.n l'.scope.skus.c, .slice l'.scope.cats.A l'.scope.cats.n l'.scope.cats.c, .int .i64 y.least, .int .i64 y.rate, .int .i64 y.amount, .int .i64 y.buy, .int .i64 y.get, .slice l'.parts.A l'.parts.n l'.parts.c, .slice l'.tiers.A l'.tiers.n l'.tiers.c] := by rw [← hW2]; exact Qu.Blk.new W1 _ _
  obtain ⟨W3, hW3⟩ : ∃ W3, W2.alloc (.cells #[.func (.func 82) #[] #[.pointer (some ⟨w.heap.size, 0, none⟩), .pointer (some ⟨W1.heap.size, 0, none⟩)], .func (.func 83) #[] #[.pointer (some ⟨w.heap.size, 0, none⟩), .pointer (some ⟨W1.heap.size, 0, none⟩)], .func (.func 84) #[] #[.pointer (some ⟨w.heap.size, 0, none⟩), .pointer (some ⟨W1.heap.size, 0, none⟩)], .func (.func 85) #[] #[.pointer (some ⟨w.heap.size, 0, none⟩), .pointer (some ⟨W1.heap.size, 0, none⟩)], .func (.func 86) #[] #[.pointer (some ⟨w.heap.size, 0, none⟩), .pointer (some ⟨W1.heap.size, 0, none⟩)], .func (.func 87) #[] #[.pointer (some ⟨w.heap.size, 0, none⟩), .pointer (some ⟨W1.heap.size, 0, none⟩)], .func (.func 88) #[] #[.pointer (some ⟨w.heap.size, 0, none⟩), .pointer (some ⟨W1.heap.size, 0, none⟩)], .func (.func 90) #[] #[.pointer (some ⟨w.heap.size, 0, none⟩), .pointer (some ⟨W1.heap.size, 0, none⟩)], .func (.func 91) #[] #[.pointer (some ⟨w.heap.size, 0, none⟩), .pointer (some ⟨W1.heap.size, 0, none⟩)], .func (.func 92) #[] #[.pointer (some ⟨w.heap.size, 0, none⟩), .pointer (some ⟨W1.heap.size, 0, none⟩)], .func (.func 93) #[] #[.pointer (some ⟨w.heap.size, 0, none⟩), .pointer (some ⟨W1.heap.size, 0, none⟩)], .func (.func 94) #[] #[.pointer (some ⟨w.heap.size, 0, none⟩), .pointer (some ⟨W1.heap.size, 0, none⟩)], .func (.func 95) #[] #[.pointer (some ⟨w.heap.size, 0, none⟩), .pointer (some ⟨W1.heap.size, 0, none⟩)], .func (.func 98) #[] #[.pointer (some ⟨w.heap.size, 0, none⟩), .pointer (some ⟨W1.heap.size, 0, none⟩)]] 35) = W3 := ⟨_, rfl⟩
  have hb3 : Below W2.heap.size W2 W3 := by rw [← hW3]; exact (Below.refl _ _).alloc (Nat.le_refl _) _
  have hbf : Qu.Blk W3 W2.heap.size 35 #[.func (.func 82) #[] #[.pointer (some ⟨w.heap.size, 0, none⟩), .pointer (some ⟨W1.heap.size, 0, none⟩)], .func (.func 83) #[] #[.pointer (some ⟨w.heap.size, 0, none⟩), .pointer (some ⟨W1.heap.size, 0, none⟩)], .func (.func 84) #[] #[.pointer (some ⟨w.heap.size, 0, none⟩), .pointer (some ⟨W1.heap.size, 0, none⟩)], .func (.func 85) #[] #[.pointer (some ⟨w.heap.size, 0, none⟩), .pointer (some ⟨W1.heap.size, 0, none⟩)], .func (.func 86) #[] #[.pointer (some ⟨w.heap.size, 0, none⟩), .pointer (some ⟨W1.heap.size, 0, none⟩)], .func (.func 87) #[] #[.pointer (some ⟨w.heap.size, 0, none⟩), .pointer (some ⟨W1.heap.size, 0, none⟩)], .func (.func 88) #[] #[.pointer (some ⟨w.heap.size, 0, none⟩), .pointer (some ⟨W1.heap.size, 0, none⟩)], .func (.func 90) #[] #[.pointer (some ⟨w.heap.size, 0, none⟩), .pointer (some ⟨W1.heap.size, 0, none⟩)], .func (.func 91) #[] #[.pointer (some ⟨w.heap.size, 0, none⟩), .pointer (some ⟨W1.heap.size, 0, none⟩)], .func (.func 92) #[] #[.pointer (some ⟨w.heap.size, 0, none⟩), .pointer (some ⟨W1.heap.size, 0, none⟩)], .func (.func 93) #[] #[.pointer (some ⟨w.heap.size, 0, none⟩), .pointer (some ⟨W1.heap.size, 0, none⟩)], .func (.func 94) #[] #[.pointer (some ⟨w.heap.size, 0, none⟩), .pointer (some ⟨W1.heap.size, 0, none⟩)], .func (.func 95) #[] #[.pointer (some ⟨w.heap.size, 0, none⟩), .pointer (some ⟨W1.heap.size, 0, none⟩)], .func (.func 98) #[] #[.pointer (some ⟨w.heap.size, 0, none⟩), .pointer (some ⟨W1.heap.size, 0, none⟩)]] := by rw [← hW3]; exact Qu.Blk.new W2 _ _
  have HON : ∀ W, Below W3.heap.size W3 W → Prm.Holds W F x l ∧ Prm.Holds W F y l' ∧ (∀ b, F b → b < W.heap.size) := fun W hW => by
    have hz : Below w.heap.size w W := (hB.trans (hb3.mono hB.size)).trans (hW.mono (hB.trans (hb3.mono hB.size)).size)
    have ag : Agree F w W := ag_of hF (Below.refl _ _) (hz)
    exact ⟨prm_on hx ag, prm_on hy ag, fun b hb => Nat.lt_of_lt_of_le (hF b hb) hz.size⟩
  have HA : Asks W3 [.func (.func 82) #[] #[.pointer (some ⟨w.heap.size, 0, none⟩), .pointer (some ⟨W1.heap.size, 0, none⟩)], .func (.func 83) #[] #[.pointer (some ⟨w.heap.size, 0, none⟩), .pointer (some ⟨W1.heap.size, 0, none⟩)], .func (.func 84) #[] #[.pointer (some ⟨w.heap.size, 0, none⟩), .pointer (some ⟨W1.heap.size, 0, none⟩)], .func (.func 85) #[] #[.pointer (some ⟨w.heap.size, 0, none⟩), .pointer (some ⟨W1.heap.size, 0, none⟩)], .func (.func 86) #[] #[.pointer (some ⟨w.heap.size, 0, none⟩), .pointer (some ⟨W1.heap.size, 0, none⟩)], .func (.func 87) #[] #[.pointer (some ⟨w.heap.size, 0, none⟩), .pointer (some ⟨W1.heap.size, 0, none⟩)], .func (.func 88) #[] #[.pointer (some ⟨w.heap.size, 0, none⟩), .pointer (some ⟨W1.heap.size, 0, none⟩)], .func (.func 90) #[] #[.pointer (some ⟨w.heap.size, 0, none⟩), .pointer (some ⟨W1.heap.size, 0, none⟩)], .func (.func 91) #[] #[.pointer (some ⟨w.heap.size, 0, none⟩), .pointer (some ⟨W1.heap.size, 0, none⟩)], .func (.func 92) #[] #[.pointer (some ⟨w.heap.size, 0, none⟩), .pointer (some ⟨W1.heap.size, 0, none⟩)], .func (.func 93) #[] #[.pointer (some ⟨w.heap.size, 0, none⟩), .pointer (some ⟨W1.heap.size, 0, none⟩)], .func (.func 94) #[] #[.pointer (some ⟨w.heap.size, 0, none⟩), .pointer (some ⟨W1.heap.size, 0, none⟩)], .func (.func 95) #[] #[.pointer (some ⟨w.heap.size, 0, none⟩), .pointer (some ⟨W1.heap.size, 0, none⟩)], .func (.func 98) #[] #[.pointer (some ⟨w.heap.size, 0, none⟩), .pointer (some ⟨W1.heap.size, 0, none⟩)]] [Sr.same x.id y.id, x.kind == y.kind, x.priority == y.priority, Sr.same x.group y.group, Sr.same x.code y.code, x.closes == y.closes, eqS x.scope y.scope, x.least == y.least, x.rate == y.rate, x.amount == y.amount, x.buy == y.buy, x.get == y.get, eqL eqT x.parts y.parts, eqL Tir.sameB x.tiers y.tiers] := by
    refine Asks.cons (run_call Tryz.func82 (by kernel_rfl) (by kernel_rfl) _) (fun W hW => samePromo_1 x y l l' F w.heap.size W1.heap.size W (hbx.below (hb3.trans (hW.mono hb3.size))) (hby.below (hb3.trans (hW.mono hb3.size)))) ?_
    refine Asks.cons (run_call Tryz.func83 (by kernel_rfl) (by kernel_rfl) _) (fun W hW => samePromo_2 x y l l' F w.heap.size W1.heap.size W (hbx.below (hb3.trans (hW.mono hb3.size))) (hby.below (hb3.trans (hW.mono hb3.size)))) ?_
    refine Asks.cons (run_call Tryz.func84 (by kernel_rfl) (by kernel_rfl) _) (fun W hW => samePromo_3 x y l l' F w.heap.size W1.heap.size W (hbx.below (hb3.trans (hW.mono hb3.size))) (hby.below (hb3.trans (hW.mono hb3.size)))) ?_
    refine Asks.cons (run_call Tryz.func85 (by kernel_rfl) (by kernel_rfl) _) (fun W hW => samePromo_4 x y l l' F w.heap.size W1.heap.size W (hbx.below (hb3.trans (hW.mono hb3.size))) (hby.below (hb3.trans (hW.mono hb3.size)))) ?_
    refine Asks.cons (run_call Tryz.func86 (by kernel_rfl) (by kernel_rfl) _) (fun W hW => samePromo_5 x y l l' F w.heap.size W1.heap.size W (hbx.below (hb3.trans (hW.mono hb3.size))) (hby.below (hb3.trans (hW.mono hb3.size)))) ?_
    refine Asks.cons (run_call Tryz.func87 (by kernel_rfl) (by kernel_rfl) _) (fun W hW => samePromo_6 x y l l' F w.heap.size W1.heap.size W (hbx.below (hb3.trans (hW.mono hb3.size))) (hby.below (hb3.trans (hW.mono hb3.size)))) ?_
    refine Asks.cons (run_call Tryz.func88 (by kernel_rfl) (by kernel_rfl) _) (fun W hW => samePromo_7 x y l l' F w.heap.size W1.heap.size W (hbx.below (hb3.trans (hW.mono hb3.size))) (hby.below (hb3.trans (hW.mono hb3.size))) (HON W hW).1 (HON W hW).2.1 (HON W hW).2.2 hP) ?_
    refine Asks.cons (run_call Tryz.func90 (by kernel_rfl) (by kernel_rfl) _) (fun W hW => samePromo_8 x y l l' F w.heap.size W1.heap.size W (hbx.below (hb3.trans (hW.mono hb3.size))) (hby.below (hb3.trans (hW.mono hb3.size)))) ?_
    refine Asks.cons (run_call Tryz.func91 (by kernel_rfl) (by kernel_rfl) _) (fun W hW => samePromo_9 x y l l' F w.heap.size W1.heap.size W (hbx.below (hb3.trans (hW.mono hb3.size))) (hby.below (hb3.trans (hW.mono hb3.size)))) ?_
    refine Asks.cons (run_call Tryz.func92 (by kernel_rfl) (by kernel_rfl) _) (fun W hW => samePromo_10 x y l l' F w.heap.size W1.heap.size W (hbx.below (hb3.trans (hW.mono hb3.size))) (hby.below (hb3.trans (hW.mono hb3.size)))) ?_
    refine Asks.cons (run_call Tryz.func93 (by kernel_rfl) (by kernel_rfl) _) (fun W hW => samePromo_11 x y l l' F w.heap.size W1.heap.size W (hbx.below (hb3.trans (hW.mono hb3.size))) (hby.below (hb3.trans (hW.mono hb3.size)))) ?_
    refine Asks.cons (run_call Tryz.func94 (by kernel_rfl) (by kernel_rfl) _) (fun W hW => samePromo_12 x y l l' F w.heap.size W1.heap.size W (hbx.below (hb3.trans (hW.mono hb3.size))) (hby.below (hb3.trans (hW.mono hb3.size)))) ?_
    refine Asks.cons (run_call Tryz.func95 (by kernel_rfl) (by kernel_rfl) _) (fun W hW => samePromo_13 x y l l' F w.heap.size W1.heap.size W (hbx.below (hb3.trans (hW.mono hb3.size))) (hby.below (hb3.trans (hW.mono hb3.size))) (HON W hW).1 (HON W hW).2.1 (HON W hW).2.2 hP) ?_
    refine Asks.cons (run_call Tryz.func98 (by kernel_rfl) (by kernel_rfl) _) (fun W hW => samePromo_14 x y l l' F w.heap.size W1.heap.size W (hbx.below (hb3.trans (hW.mono hb3.size))) (hby.below (hb3.trans (hW.mono hb3.size))) (HON W hW).1 (HON W hW).2.1 (HON W hW).2.2 hP) ?_
    exact Asks.nil _
  have HC := Lib.hid (fields_any _ _ W2.heap.size 14 W3 hbf rfl rfl (by omega) HA)
  have HE : Hid (([Sr.same x.id y.id, x.kind == y.kind, x.priority == y.priority, Sr.same x.group y.group, Sr.same x.code y.code, x.closes == y.closes, eqS x.scope y.scope, x.least == y.least, x.rate == y.rate, x.amount == y.amount, x.buy == y.buy, x.get == y.get, eqL eqT x.parts y.parts, eqL Tir.sameB x.tiers y.tiers].all id) = eqM x y) := Lib.hid (by simp only [List.all_cons, List.all_nil, id, Bool.and_true]; unfold eqM; simp only [Bool.and_assoc])
  have HB := Lib.hid (hB.trans (hb3.mono hB.size))
  clear hx hy hF hB hbx hby hb3 hbf HON HA
  go_enter Tryz.func50, Tryz.ntmps50
  go_wp2_with fail
  refine HC.out.mono ?_
  rintro e w1 ⟨rfl, hb⟩
  have HB2 := Lib.hid (HB.out.trans (hb.mono HB.out.size))
  clear hb
  rw [HE.out]
  go_wp2
  go_ret
  exact ⟨rfl, HB2.out⟩
set_option maxHeartbeats 4000000 in
theorem same_promosL (A C : Option Addr) (n m ca cc : Nat) (xs ys : List Prm) (F : Nat → Prop) (w : World) (ha : Row kPrm w F A n xs) (hc : Row kPrm w F C m ys) (hF : ∀ b, F b → b < w.heap.size) (hn : n ≤ 9223372036854775807) (hsm : ∀ x ∈ xs, SmallP x) :
    Calls Tryz.prog 49 #[.slice A n ca, .slice C m cc, .func (.func 50) #[] #[]] w fun e w' => e = .returned (.bool (eqL eqM xs ys)) ∧ Below w.heap.size w w' := by
  have hl := ha.len
  have hl2 := hc.len
  have HL := Lib.hid (And.intro hl hl2)
  have HF := Lib.hid hF
  have HSM := Lib.hid hsm
  by_cases hnm : n = m
  · subst hnm
    have b0 : ((n : Int) != (n : Int)) = false := by simp
    have HT0 := Lib.hid (Two.mk ha hc (Below.refl w.heap.size w))
    clear ha hc hl hl2 hF
    go_enter Tryz.func49, Tryz.ntmps49
    go_wp2
    go_loopw [17] (fun s wr => ∃ k : Nat, s = .int .i64 k ∧ k ≤ n ∧ Hid (Two kPrm w wr F A C n n xs ys) ∧ Hid (∀ (j : Nat) (x y : Prm), j < k → xs[j]? = some x → ys[j]? = some y → eqM x y = true)) (fun s _ => n - (intOf s).toNat)
    case atStart => exact ⟨0, rfl, by omega, HT0, Lib.hid fun j x y hj => by omega⟩
    case round =>
      clear HT0
      obtain ⟨k, rfl, hk, HT, HE⟩ := hrel
      by_cases hlt : k < n
      · obtain ⟨x, y, hx, hy⟩ := rows_get HT.out.a HT.out.c hlt
        obtain ⟨g, o, l, rfl, hg1, hg2, hx1, a0, a1, a2, a3, a4, a5, a6, a7, a8, a9, a10, a11, a12, a13, a14⟩ := row_Prm HT.out.a hx
        obtain ⟨g', o', l', rfl, hg3, hg4, hy1, d0, d1, d2, d3, d4, d5, d6, d7, d8, d9, d10, d11, d12, d13, d14⟩ := row_Prm HT.out.c hy
        have k0 : (0 : Int) ≤ (k : Int) := by omega
        have k1 : (k : Int) < (n : Int) := by omega
        have HXY := Lib.hid (And.intro hx hy)
        obtain ⟨W3, hW3⟩ : ∃ W3, wr.alloc (.cells #[.string x.id, .int .i64 x.kind, .int .i64 x.priority, .string x.group, .string x.code, .bool x.closes, .slice l.scope.skus.A l.scope.skus.n l.scope.skus.c, .slice l.scope.cats.A l.scope.cats.n l.scope.cats.c, .int .i64 x.least, .int .i64 x.rate, .int .i64 x.amount, .int .i64 x.buy, .int .i64 x.get, .slice l.parts.A l.parts.n l.parts.c, .slice l.tiers.A l.tiers.n l.tiers.c] 51) = W3 := ⟨_, rfl⟩
        have hb3 : Below wr.heap.size wr W3 := by rw [← hW3]; exact (Below.refl _ _).alloc (Nat.le_refl _) _
        have hbx : Qu.Blk W3 wr.heap.size 51 #[.string x.id, .int .i64 x.kind, .int .i64 x.priority, .string x.group, .string x.code, .bool x.closes, .slice l.scope.skus.A l.scope.skus.n l.scope.skus.c, .slice l.scope.cats.A l.scope.cats.n l.scope.cats.c, .int .i64 x.least, .int .i64 x.rate, .int .i64 x.amount, .int .i64 x.buy, .int .i64 x.get, .slice l.parts.A l.parts.n l.parts.c, .slice l.tiers.A l.tiers.n l.tiers.c] := by rw [← hW3]; exact Qu.Blk.new wr _ _
        obtain ⟨W4, hW4⟩ : ∃ W4, W3.alloc (.cells #[.string y.id, .int .i64 y.kind, .int .i64 y.priority, .string y.group, .string y.code, .bool y.closes, .slice l'.scope.skus.A l'.scope.skus.n l'.scope.skus.c, .slice l'.scope.cats.A l'.scope.cats.n l'.scope.cats.c, .int .i64 y.least, .int .i64 y.rate, .int .i64 y.amount, .int .i64 y.buy, .int .i64 y.get, .slice l'.parts.A l'.parts.n l'.parts.c, .slice l'.tiers.A l'.tiers.n l'.tiers.c] 51) = W4 := ⟨_, rfl⟩
        have hb4 : Below W3.heap.size W3 W4 := by rw [← hW4]; exact (Below.refl _ _).alloc (Nat.le_refl _) _
        have hby : Qu.Blk W4 W3.heap.size 51 #[.string y.id, .int .i64 y.kind, .int .i64 y.priority, .string y.group, .string y.code, .bool y.closes, .slice l'.scope.skus.A l'.scope.skus.n l'.scope.skus.c, .slice l'.scope.cats.A l'.scope.cats.n l'.scope.cats.c, .int .i64 y.least, .int .i64 y.rate, .int .i64 y.amount, .int .i64 y.buy, .int .i64 y.get, .slice l'.parts.A l'.parts.n l'.parts.c, .slice l'.tiers.A l'.tiers.n l'.tiers.c] := by rw [← hW4]; exact Qu.Blk.new W3 _ _
        have hb5 : Below wr.heap.size wr W4 := hb3.trans (hb4.mono hb3.size)
        have e0 : W3.cell? ⟨g', o' + k * 15, none⟩ = some (.string y.id) := (hb3.cell (p := ⟨g', _, none⟩) hg4).trans d0
        have e1 : W3.cell? ⟨g', o' + k * 15 + 1, none⟩ = some (.int .i64 y.kind) := (hb3.cell (p := ⟨g', _, none⟩) hg4).trans d1
        have e2 : W3.cell? ⟨g', o' + k * 15 + 2, none⟩ = some (.int .i64 y.priority) := (hb3.cell (p := ⟨g', _, none⟩) hg4).trans d2
        have e3 : W3.cell? ⟨g', o' + k * 15 + 3, none⟩ = some (.string y.group) := (hb3.cell (p := ⟨g', _, none⟩) hg4).trans d3
        have e4 : W3.cell? ⟨g', o' + k * 15 + 4, none⟩ = some (.string y.code) := (hb3.cell (p := ⟨g', _, none⟩) hg4).trans d4
        have e5 : W3.cell? ⟨g', o' + k * 15 + 5, none⟩ = some (.bool y.closes) := (hb3.cell (p := ⟨g', _, none⟩) hg4).trans d5
        have e6 : W3.cell? ⟨g', o' + k * 15 + 6, none⟩ = some (.slice l'.scope.skus.A l'.scope.skus.n l'.scope.skus.c) := (hb3.cell (p := ⟨g', _, none⟩) hg4).trans d6
        have e7 : W3.cell? ⟨g', o' + k * 15 + 7, none⟩ = some (.slice l'.scope.cats.A l'.scope.cats.n l'.scope.cats.c) := (hb3.cell (p := ⟨g', _, none⟩) hg4).trans d7
        have e8 : W3.cell? ⟨g', o' + k * 15 + 8, none⟩ = some (.int .i64 y.least) := (hb3.cell (p := ⟨g', _, none⟩) hg4).trans d8
        have e9 : W3.cell? ⟨g', o' + k * 15 + 9, none⟩ = some (.int .i64 y.rate) := (hb3.cell (p := ⟨g', _, none⟩) hg4).trans d9
        have e10 : W3.cell? ⟨g', o' + k * 15 + 10, none⟩ = some (.int .i64 y.amount) := (hb3.cell (p := ⟨g', _, none⟩) hg4).trans d10
        have e11 : W3.cell? ⟨g', o' + k * 15 + 11, none⟩ = some (.int .i64 y.buy) := (hb3.cell (p := ⟨g', _, none⟩) hg4).trans d11
        have e12 : W3.cell? ⟨g', o' + k * 15 + 12, none⟩ = some (.int .i64 y.get) := (hb3.cell (p := ⟨g', _, none⟩) hg4).trans d12
        have e13 : W3.cell? ⟨g', o' + k * 15 + 13, none⟩ = some (.slice l'.parts.A l'.parts.n l'.parts.c) := (hb3.cell (p := ⟨g', _, none⟩) hg4).trans d13
        have e14 : W3.cell? ⟨g', o' + k * 15 + 14, none⟩ = some (.slice l'.tiers.A l'.tiers.n l'.tiers.c) := (hb3.cell (p := ⟨g', _, none⟩) hg4).trans d14
        have x0 := (hbx.below hb4).cell 0
        have y0 := hby.cell 0
        have x1 := (hbx.below hb4).cell 1
        have y1 := hby.cell 1
        have x2 := (hbx.below hb4).cell 2
        have y2 := hby.cell 2
        have x3 := (hbx.below hb4).cell 3
        have y3 := hby.cell 3
        have x4 := (hbx.below hb4).cell 4
        have y4 := hby.cell 4
        have x5 := (hbx.below hb4).cell 5
        have y5 := hby.cell 5
        have x6 := (hbx.below hb4).cell 6
        have y6 := hby.cell 6
        have x7 := (hbx.below hb4).cell 7
        have y7 := hby.cell 7
        have x8 := (hbx.below hb4).cell 8
        have y8 := hby.cell 8
        have x9 := (hbx.below hb4).cell 9
        have y9 := hby.cell 9
        have x10 := (hbx.below hb4).cell 10
        have y10 := hby.cell 10
        have x11 := (hbx.below hb4).cell 11
        have y11 := hby.cell 11
        have x12 := (hbx.below hb4).cell 12
        have y12 := hby.cell 12
        have x13 := (hbx.below hb4).cell 13
        have y13 := hby.cell 13
        have x14 := (hbx.below hb4).cell 14
        have y14 := hby.cell 14
        have HO := Lib.hid (promo_sameL x y l l' F W4 (prm_on hx1 (ag_of HF.out HT.out.below hb5)) (prm_on hy1 (ag_of HF.out HT.out.below hb5)) (fun b hb => Nat.lt_of_lt_of_le (HF.out b hb) (Nat.le_trans HT.out.below.size hb5.size)) (HSM.out x (List.mem_of_getElem? HXY.out.1)))
        have HB5 := Lib.hid hb5
        clear hx hy hg1 hg2 hg3 hg4 hx1 hy1 hb3 hb4 hb5 hbx hby d0 d1 d2 d3 d4 d5 d6 d7 d8 d9 d10 d11 d12 d13 d14
        cases hB : eqM x y with
        | true =>
          rw [hB] at HO
          have HB := Lib.hid hB
          clear hB
          go_wp2_with fail
          refine HO.out.mono ?_
          rintro e wz ⟨rfl, hz⟩
          have HT2 := Lib.hid (HT.out.on HF.out (HB5.out.trans (hz.mono HB5.out.size)))
          clear hz
          go_wp2
          go_roundw
          case rel => exact ⟨k + 1, by go_num, by omega, HT2, Lib.hid fun j x' y' hj hx' hy' => by
            rcases Nat.lt_or_ge j k with h | h
            · exact HE.out j x' y' h hx' hy'
            · obtain rfl : j = k := by omega
              rw [HXY.out.1] at hx'
              rw [HXY.out.2] at hy'
              injection hx' with hx'
              injection hy' with hy'
              subst hx' hy'
              exact HB.out⟩
          case measure => simp [intOf]; omega
        | false =>
          rw [hB] at HO
          have HG := Lib.hid (eqL_no HXY.out.1 HXY.out.2 hB)
          clear hB
          go_wp2_with fail
          refine HO.out.mono ?_
          rintro e wz ⟨rfl, hz⟩
          have HT2 := Lib.hid (HT.out.on HF.out (HB5.out.trans (hz.mono HB5.out.size)))
          clear hz
          go_wp2
          go_ret
          exact ⟨by rw [HG.out]; rfl, HT2.out.below⟩
      · have k1 : ¬ (k : Int) < (n : Int) := by omega
        have HG := Lib.hid (eqL_yes (eq := eqM) (HL.out.1.trans HL.out.2.symm) fun j x y hx hy => HE.out j x y (by
          have := (List.getElem?_eq_some_iff.1 hx).1
          rw [HL.out.1] at this
          omega) hx hy)
        go_wp2
        go_ret
        exact ⟨by rw [HG.out]; rfl, HT.out.below⟩
  · have b0 : ((n : Int) != (m : Int)) = true := by rw [bne_iff_ne]; omega
    have HG := Lib.hid (eqL_len (eq := eqM) (xs := xs) (ys := ys) (by omega))
    clear ha hc hl hl2 hnm hF
    go_enter Tryz.func49, Tryz.ntmps49
    go_wp2
    go_ret
    exact ⟨by rw [HG.out]; rfl, Below.refl _ _⟩
end Go.Proofs.YtfcmhgneijipgaaGreat.Ru
