/- Law 13: rules in a box of the call's own, and what is asked of them. (made by wip/gen-rwC.py) -/
import Derived.Test.YtfcmhgneijipgaaGreatPk28
import Derived.Test.YtfcmhgneijipgaaGreatPk38

set_option maxRecDepth 100000
set_option linter.unusedVariables false
namespace Go.Proofs.YtfcmhgneijipgaaGreat.Ru
open Go.ChangeShapes Go.WideShapes Go.ChangeAt Go.RowKit
open Ap (CtR Zon Txs Shp Pol Rls Prm Prt Tir Scp kCtR kZon kPrm kPrt row_CtR row_Zon row_Prm)
open Kd (Row Lst Sl Fit Agree eqL kInt row_int)
open Hp (eqI)
structure BoxR (w W : World) (b : Nat) (r : Rls) (l : Rls.Lay) : Prop where
  blk : Qu.Blk W b 33 #[.slice l.items.A l.items.n l.items.c, .slice l.promos.A l.promos.n l.promos.c, .bool r.tax.incl, .bool r.tax.byOrder, .int .i64 r.tax.round, .slice l.tax.zones.A l.tax.zones.n l.tax.zones.c, .int .i64 r.ship.fee, .int .i64 r.ship.free, .int .i64 r.policy.window, .int .i64 r.policy.grace, .int .i64 r.policy.mode, .int .i64 r.policy.restock, .slice l.policy.order.A l.policy.order.n l.policy.order.c, .slice l.policy.credit.A l.policy.credit.n l.policy.credit.c]
  holds : Rls.Holds W (· < W.heap.size) r l
  below : Below w.heap.size w W
theorem BoxR.later {w W W' : World} {b : Nat} {r : Rls} {l : Rls.Lay} (h : BoxR w W b r l) (hb : Below W.heap.size W W') : BoxR w W' b r l := ⟨h.blk.below hb, rules_later h.holds hb, h.below.trans (hb.mono h.below.size)⟩
theorem BoxR.right {w W : World} {b : Nat} {r : Rls} {l : Rls.Lay} (h : BoxR w W b r l) (hs : RulesSmall r) : ∀ u, Below W.heap.size W u → Calls Tryz.prog 11 #[.agg #[.slice l.items.A l.items.n l.items.c, .slice l.promos.A l.promos.n l.promos.c, .bool r.tax.incl, .bool r.tax.byOrder, .int .i64 r.tax.round, .slice l.tax.zones.A l.tax.zones.n l.tax.zones.c, .int .i64 r.ship.fee, .int .i64 r.ship.free, .int .i64 r.policy.window, .int .i64 r.policy.grace, .int .i64 r.policy.mode, .int .i64 r.policy.restock, .slice l.policy.order.A l.policy.order.n l.policy.order.c, .slice l.policy.credit.A l.policy.credit.n l.policy.credit.c]] u fun e w' => e = .returned (.bool (rulesB r)) ∧ Below W.heap.size W w' := fun u hu =>
  (right_any r l u (rules_later h.holds hu) hs).mono fun e w' he => ⟨he.1, Hk.andThen hu he.2⟩
theorem BoxR.rright {w W : World} {b : Nat} {r : Rls} {l : Rls.Lay} (h : BoxR w W b r l) (hs : RulesSmall r) : ∀ u, Below W.heap.size W u → Calls Tryz.prog 12 #[.agg #[.slice l.items.A l.items.n l.items.c, .slice l.promos.A l.promos.n l.promos.c, .bool r.tax.incl, .bool r.tax.byOrder, .int .i64 r.tax.round, .slice l.tax.zones.A l.tax.zones.n l.tax.zones.c, .int .i64 r.ship.fee, .int .i64 r.ship.free, .int .i64 r.policy.window, .int .i64 r.policy.grace, .int .i64 r.policy.mode, .int .i64 r.policy.restock, .slice l.policy.order.A l.policy.order.n l.policy.order.c, .slice l.policy.credit.A l.policy.credit.n l.policy.credit.c]] u fun e w' => e = .returned (.bool (rulesB r)) ∧ Below W.heap.size W w' := fun u hu =>
  (rrules_any r l u (rules_later h.holds hu) hs).mono fun e w' he => ⟨he.1, Hk.andThen hu he.2⟩
theorem BoxR.tax {w W : World} {b : Nat} {r : Rls} {l : Rls.Lay} (h : BoxR w W b r l) (hs : RulesSmall r) : ∀ u, Below W.heap.size W u → Calls Tryz.prog 13 #[.agg #[.bool r.tax.incl, .bool r.tax.byOrder, .int .i64 r.tax.round, .slice l.tax.zones.A l.tax.zones.n l.tax.zones.c]] u fun e w' => e = .returned (.bool (taxB r.tax)) ∧ Below W.heap.size W w' := fun u hu =>
  (tax_any r.tax l.tax u (rules_later h.holds hu).tax hs.zones.1 (by have := h.holds.tax.zones.row.len; have := hs.zones.2; omega)).mono fun e w' he => ⟨he.1, Hk.andThen hu he.2⟩
theorem BoxR.rtax {w W : World} {b : Nat} {r : Rls} {l : Rls.Lay} (h : BoxR w W b r l) (hs : RulesSmall r) : ∀ u, Below W.heap.size W u → Calls Tryz.prog 14 #[.agg #[.bool r.tax.incl, .bool r.tax.byOrder, .int .i64 r.tax.round, .slice l.tax.zones.A l.tax.zones.n l.tax.zones.c]] u fun e w' => e = .returned (.bool (taxB r.tax)) ∧ Below W.heap.size W w' := fun u hu =>
  (rtax_any r.tax l.tax u (rules_later h.holds hu).tax hs.zones.1 (by have := h.holds.tax.zones.row.len; have := hs.zones.2; omega)).mono fun e w' he => ⟨he.1, Hk.andThen hu he.2⟩
theorem awake_on {W : World} : ∀ u, Below W.heap.size W u → Calls Tryz.prog 9 #[] u fun e w' => e = .returned (.bool true) ∧ Below W.heap.size W w' := fun u hu => (awake_any u).mono fun e w' he => ⟨he.1, Hk.andThen hu he.2⟩
theorem same_on {W : World} {x y : Rls} {l l' : Rls.Lay} (hx : Rls.Holds W (· < W.heap.size) x l) (hy : Rls.Holds W (· < W.heap.size) y l') (hs : SmallR x) : ∀ u, Below W.heap.size W u → Calls Tryz.prog 16 #[.agg #[.slice l.items.A l.items.n l.items.c, .slice l.promos.A l.promos.n l.promos.c, .bool x.tax.incl, .bool x.tax.byOrder, .int .i64 x.tax.round, .slice l.tax.zones.A l.tax.zones.n l.tax.zones.c, .int .i64 x.ship.fee, .int .i64 x.ship.free, .int .i64 x.policy.window, .int .i64 x.policy.grace, .int .i64 x.policy.mode, .int .i64 x.policy.restock, .slice l.policy.order.A l.policy.order.n l.policy.order.c, .slice l.policy.credit.A l.policy.credit.n l.policy.credit.c], .agg #[.slice l'.items.A l'.items.n l'.items.c, .slice l'.promos.A l'.promos.n l'.promos.c, .bool y.tax.incl, .bool y.tax.byOrder, .int .i64 y.tax.round, .slice l'.tax.zones.A l'.tax.zones.n l'.tax.zones.c, .int .i64 y.ship.fee, .int .i64 y.ship.free, .int .i64 y.policy.window, .int .i64 y.policy.grace, .int .i64 y.policy.mode, .int .i64 y.policy.restock, .slice l'.policy.order.A l'.policy.order.n l'.policy.order.c, .slice l'.policy.credit.A l'.policy.credit.n l'.policy.credit.c]] u fun e w' => e = .returned (.bool (eqR x y)) ∧ Below W.heap.size W w' := fun u hu =>
  (rules_sameL x y l l' (· < u.heap.size) u (rules_later hx hu) (rules_later hy hu) (fun b hb => hb) hs).mono fun e w' he => ⟨he.1, Hk.andThen hu he.2⟩
theorem hsame_on {W : World} {x y : Rls} {l l' : Rls.Lay} (hx : Rls.Holds W (· < W.heap.size) x l) (hy : Rls.Holds W (· < W.heap.size) y l') (hs : SmallR x) : ∀ u, Below W.heap.size W u → Calls Tryz.prog 17 #[.agg #[.slice l.items.A l.items.n l.items.c, .slice l.promos.A l.promos.n l.promos.c, .bool x.tax.incl, .bool x.tax.byOrder, .int .i64 x.tax.round, .slice l.tax.zones.A l.tax.zones.n l.tax.zones.c, .int .i64 x.ship.fee, .int .i64 x.ship.free, .int .i64 x.policy.window, .int .i64 x.policy.grace, .int .i64 x.policy.mode, .int .i64 x.policy.restock, .slice l.policy.order.A l.policy.order.n l.policy.order.c, .slice l.policy.credit.A l.policy.credit.n l.policy.credit.c], .agg #[.slice l'.items.A l'.items.n l'.items.c, .slice l'.promos.A l'.promos.n l'.promos.c, .bool y.tax.incl, .bool y.tax.byOrder, .int .i64 y.tax.round, .slice l'.tax.zones.A l'.tax.zones.n l'.tax.zones.c, .int .i64 y.ship.fee, .int .i64 y.ship.free, .int .i64 y.policy.window, .int .i64 y.policy.grace, .int .i64 y.policy.mode, .int .i64 y.policy.restock, .slice l'.policy.order.A l'.policy.order.n l'.policy.order.c, .slice l'.policy.credit.A l'.policy.credit.n l'.policy.credit.c]] u fun e w' => e = .returned (.bool (eqR x y)) ∧ Below W.heap.size W w' := fun u hu =>
  (rules_same x y l l' (· < u.heap.size) u (rules_later hx hu) (rules_later hy hu) (fun b hb => hb) hs).mono fun e w' he => ⟨he.1, Hk.andThen hu he.2⟩
theorem BoxR.played {w W : World} {b : Nat} {r : Rls} {l : Rls.Lay} (h : BoxR w W b r l) (hs : RulesSmall r) : Calls Tryz.prog 10 #[.agg #[.slice l.items.A l.items.n l.items.c, .slice l.promos.A l.promos.n l.promos.c, .bool r.tax.incl, .bool r.tax.byOrder, .int .i64 r.tax.round, .slice l.tax.zones.A l.tax.zones.n l.tax.zones.c, .int .i64 r.ship.fee, .int .i64 r.ship.free, .int .i64 r.policy.window, .int .i64 r.policy.grace, .int .i64 r.policy.mode, .int .i64 r.policy.restock, .slice l.policy.order.A l.policy.order.n l.policy.order.c, .slice l.policy.credit.A l.policy.credit.n l.policy.credit.c]] W fun e w' => Py.RuledAs W r e w' := Py.rules_near r l W h.holds hs
theorem BoxR.store {w W wa W9 : World} {b : Nat} {r0 r : Rls} {l0 l : Rls.Lay} (h : BoxR w W b r0 l0) (hw : w.heap.size ≤ b) (hr : Py.Ruled W wa r l) (hW : ((((((((((((((wa.setCell ⟨b, 0, none⟩ (.slice l.items.A l.items.n l.items.c)).setCell ⟨b, 1, none⟩ (.slice l.promos.A l.promos.n l.promos.c)).setCell ⟨b, 2, none⟩ (.bool r.tax.incl)).setCell ⟨b, 3, none⟩ (.bool r.tax.byOrder)).setCell ⟨b, 4, none⟩ (.int .i64 r.tax.round)).setCell ⟨b, 5, none⟩ (.slice l.tax.zones.A l.tax.zones.n l.tax.zones.c)).setCell ⟨b, 6, none⟩ (.int .i64 r.ship.fee)).setCell ⟨b, 7, none⟩ (.int .i64 r.ship.free)).setCell ⟨b, 8, none⟩ (.int .i64 r.policy.window)).setCell ⟨b, 9, none⟩ (.int .i64 r.policy.grace)).setCell ⟨b, 10, none⟩ (.int .i64 r.policy.mode)).setCell ⟨b, 11, none⟩ (.int .i64 r.policy.restock)).setCell ⟨b, 12, none⟩ (.slice l.policy.order.A l.policy.order.n l.policy.order.c)).setCell ⟨b, 13, none⟩ (.slice l.policy.credit.A l.policy.credit.n l.policy.credit.c)) = W9) : BoxR w W9 b r l ∧ W.heap.size ≤ W9.heap.size ∧ (∀ g, g ≠ b → W9.heap[g]? = wa.heap[g]?) := by
  have hs : wa.heap.size ≤ W9.heap.size := by rw [← hW]; simp
  have hfar : ∀ g, g ≠ b → W9.heap[g]? = wa.heap[g]? := fun g hne => by rw [← hW, Below.heap_setCell _ _ _ _ hne, Below.heap_setCell _ _ _ _ hne, Below.heap_setCell _ _ _ _ hne, Below.heap_setCell _ _ _ _ hne, Below.heap_setCell _ _ _ _ hne, Below.heap_setCell _ _ _ _ hne, Below.heap_setCell _ _ _ _ hne, Below.heap_setCell _ _ _ _ hne, Below.heap_setCell _ _ _ _ hne, Below.heap_setCell _ _ _ _ hne, Below.heap_setCell _ _ _ _ hne, Below.heap_setCell _ _ _ _ hne, Below.heap_setCell _ _ _ _ hne, Below.heap_setCell _ _ _ _ hne]
  have hbl := h.blk.lt
  refine ⟨⟨?_, ?_, ?_⟩, Nat.le_trans hr.below.size hs, hfar⟩
  · have hk := Py.puts14 (h.blk.below hr.below) (v0 := .slice l.items.A l.items.n l.items.c) (v1 := .slice l.promos.A l.promos.n l.promos.c) (v2 := .bool r.tax.incl) (v3 := .bool r.tax.byOrder) (v4 := .int .i64 r.tax.round) (v5 := .slice l.tax.zones.A l.tax.zones.n l.tax.zones.c) (v6 := .int .i64 r.ship.fee) (v7 := .int .i64 r.ship.free) (v8 := .int .i64 r.policy.window) (v9 := .int .i64 r.policy.grace) (v10 := .int .i64 r.policy.mode) (v11 := .int .i64 r.policy.restock) (v12 := .slice l.policy.order.A l.policy.order.n l.policy.order.c) (v13 := .slice l.policy.credit.A l.policy.credit.n l.policy.credit.c)
    rw [← hW]
    exact hk
  · obtain ⟨s0, s1, s2, s3, s4, s5, a0, a1, a2, a3, a4, a5, h1, h2, h3, h4, h5⟩ := hr.bands
    exact ⟨(h1.stay hs fun g k _ => hfar g (by omega)).lst, (h2.stay hs fun g k _ => hfar g (by omega)).lst, ⟨hr.round, (h3.stay hs fun g k _ => hfar g (by omega)).lst⟩, hr.ship, ⟨hr.nums.1, hr.nums.2.1, hr.nums.2.2.1, hr.nums.2.2.2, (h4.stay hs fun g k _ => hfar g (by omega)).lst, (h5.stay hs fun g k _ => hfar g (by omega)).lst⟩⟩
  · rw [← hW]
    exact ((((((((((((((h.below.trans (hr.below.mono h.below.size)).setCell hw _).setCell hw _).setCell hw _).setCell hw _).setCell hw _).setCell hw _).setCell hw _).setCell hw _).setCell hw _).setCell hw _).setCell hw _).setCell hw _).setCell hw _).setCell hw _
/-! ### Either way -/
theorem eqL_symm {α : Type} {eq : α → α → Bool} (h : ∀ x y, eq x y = eq y x) : ∀ xs ys : List α, eqL eq xs ys = eqL eq ys xs
  | [], [] => rfl
  | [], _ :: _ => rfl
  | _ :: _, [] => rfl
  | x :: xs, y :: ys => by
    unfold eqL
    rw [h x y, eqL_symm h xs ys]
theorem same_symm (x y : ByteArray) : Sr.same x y = Sr.same y x := by unfold Sr.same; rw [Bool.beq_comm]
theorem eqS_symm (x y : Scp) : eqS x y = eqS y x := by unfold eqS; rw [eqL_symm same_symm x.skus, eqL_symm same_symm x.cats]
theorem eqT_symm (x y : Prt) : eqT x y = eqT y x := by unfold eqT; rw [eqS_symm, Bool.beq_comm]
theorem tir_symm (x y : Tir) : Ap.Tir.sameB x y = Ap.Tir.sameB y x := by unfold Ap.Tir.sameB; rw [Bool.beq_comm (a := x.least), Bool.beq_comm (a := x.rate), Bool.beq_comm (a := x.amount)]
theorem ctr_symm (x y : CtR) : Ap.CtR.sameB x y = Ap.CtR.sameB y x := by unfold Ap.CtR.sameB; rw [same_symm, Bool.beq_comm (a := x.rate)]
theorem itm_symm (x y : It.Itm) : It.sameB x y = It.sameB y x := by unfold It.sameB; rw [same_symm x.sku, same_symm x.cat, Bool.beq_comm (a := x.price), Bool.beq_comm (a := x.fin)]
theorem eqM_symm (x y : Prm) : eqM x y = eqM y x := by
  unfold eqM
  rw [same_symm x.id, same_symm x.group, same_symm x.code, eqS_symm, eqL_symm eqT_symm x.parts, eqL_symm tir_symm x.tiers, Bool.beq_comm (a := x.kind), Bool.beq_comm (a := x.priority), Bool.beq_comm (a := x.closes), Bool.beq_comm (a := x.least), Bool.beq_comm (a := x.rate), Bool.beq_comm (a := x.amount), Bool.beq_comm (a := x.buy), Bool.beq_comm (a := x.get)]
theorem eqZ_symm (x y : Zon) : eqZ x y = eqZ y x := by unfold eqZ; rw [same_symm, eqL_symm ctr_symm x.rates, Bool.beq_comm (a := x.rest), Bool.beq_comm (a := x.ship)]
theorem eqI_symm (x y : Int) : eqI x y = eqI y x := by unfold eqI; rw [Bool.beq_comm]
theorem eqR_symm (x y : Rls) : eqR x y = eqR y x := by
  unfold eqR eqX eqW eqP
  rw [eqL_symm itm_symm x.items, eqL_symm eqM_symm x.promos, eqL_symm eqZ_symm x.tax.zones, eqL_symm eqI_symm x.policy.order, eqL_symm eqI_symm x.policy.credit, Bool.beq_comm (a := x.tax.incl), Bool.beq_comm (a := x.tax.byOrder), Bool.beq_comm (a := x.tax.round), Bool.beq_comm (a := x.ship.fee), Bool.beq_comm (a := x.ship.free), Bool.beq_comm (a := x.policy.window), Bool.beq_comm (a := x.policy.grace), Bool.beq_comm (a := x.policy.mode), Bool.beq_comm (a := x.policy.restock)]
theorem eqS_refl (x : Scp) : eqS x x = true := by unfold eqS; rw [Kd.eqL_refl Sr.same_refl, Kd.eqL_refl Sr.same_refl]; rfl
theorem eqT_refl (x : Prt) : eqT x x = true := by unfold eqT; rw [eqS_refl]; simp
theorem eqM_refl (x : Prm) : eqM x x = true := by unfold eqM; rw [eqS_refl, Kd.eqL_refl eqT_refl, Kd.eqL_refl Ap.Tir.sameB_refl]; simp [Sr.same_refl]
theorem eqZ_refl (x : Zon) : eqZ x x = true := by unfold eqZ; rw [Kd.eqL_refl Ap.CtR.sameB_refl]; simp [Sr.same_refl]
theorem eqI_refl (x : Int) : eqI x x = true := by unfold eqI; simp
theorem eqR_refl (x : Rls) : eqR x x = true := by
  unfold eqR eqX eqW eqP
  rw [Kd.eqL_refl It.sameB_refl, Kd.eqL_refl eqM_refl, Kd.eqL_refl eqZ_refl, Kd.eqL_refl eqI_refl, Kd.eqL_refl eqI_refl]
  simp
end Go.Proofs.YtfcmhgneijipgaaGreat.Ru
