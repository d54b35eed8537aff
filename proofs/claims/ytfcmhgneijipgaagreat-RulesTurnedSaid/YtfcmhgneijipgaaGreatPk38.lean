/- The statements' Rules: a function of the numbers that they draw, all of it new. (made by wip/gen-rulesplay.py) -/
import Derived.Deep.CutBlock
import Derived.Deep.DeepCutAuto
import Derived.Deep.RegionHeld3
import Derived.Test.YtfcmhgneijipgaaGreatPk37

set_option maxRecDepth 100000
set_option linter.unusedVariables false
namespace Go.Proofs.YtfcmhgneijipgaaGreat.Py
open Go.ChangeShapes Go.WideShapes Go.ChangeAt Go.RowKit Go.Deep
open Kd (Kind Row Own Cells Fit Agree High Band Lst kStr kInt)
open Ap (CtR Zon Txs Shp Pol Rls Prm kCtR kZon kPrm)
open It (Itm kItem)
theorem puts14 {w : World} {g t : Nat} {a0 a1 a2 a3 a4 a5 a6 a7 a8 a9 a10 a11 a12 a13 v0 v1 v2 v3 v4 v5 v6 v7 v8 v9 v10 v11 v12 v13 : Value} (h : Qu.Blk w g t #[a0, a1, a2, a3, a4, a5, a6, a7, a8, a9, a10, a11, a12, a13]) : Qu.Blk ((((((((((((((w.setCell ⟨g, 0, none⟩ v0).setCell ⟨g, 1, none⟩ v1).setCell ⟨g, 2, none⟩ v2).setCell ⟨g, 3, none⟩ v3).setCell ⟨g, 4, none⟩ v4).setCell ⟨g, 5, none⟩ v5).setCell ⟨g, 6, none⟩ v6).setCell ⟨g, 7, none⟩ v7).setCell ⟨g, 8, none⟩ v8).setCell ⟨g, 9, none⟩ v9).setCell ⟨g, 10, none⟩ v10).setCell ⟨g, 11, none⟩ v11).setCell ⟨g, 12, none⟩ v12).setCell ⟨g, 13, none⟩ v13) g t #[v0, v1, v2, v3, v4, v5, v6, v7, v8, v9, v10, v11, v12, v13] := by
  have k := ((((((((((((((h.put 0 v0).put 1 v1).put 2 v2).put 3 v3).put 4 v4).put 5 v5).put 6 v6).put 7 v7).put 8 v8).put 9 v9).put 10 v10).put 11 v11).put 12 v12).put 13 v13)
  simpa using k
def SR (w W3 : World) (pc : Array Value) (u : World) : Prop := Below (w.heap.size + 1) W3 u ∧ Qu.Blk u (w.heap.size + 2) 31 pc
set_option maxHeartbeats 2000000 in
theorem rules_fin {w W3 u0 wa wb wc we wf W9 : World} {r : Rls} {A1 A2 A3 A4 A5 : Option Addr} {pc : Array Value} {c1 c2 c3 c4 c5 k2 n0 n1 n2 n3 n4 n5 n6 n7 : Nat} (h3 : Below w.heap.size w W3 ∧ W3.heap.size = w.heap.size + 3) (hu : Below W3.heap.size W3 u0) (hf : Below W3.heap.size W3 wf) (hq3 : Qu.Blk W3 (w.heap.size + 1) 33 #[.slice none 0 0, .slice none 0 0, .bool false, .bool false, .int .i64 0, .slice none 0 0, .int .i64 0, .int .i64 0, .int .i64 0, .int .i64 0, .int .i64 0, .int .i64 0, .slice none 0 0, .slice none 0 0]) (hp3 : Qu.Blk W3 (w.heap.size + 2) 31 pc)
    (h1 : Made u0 wa (.slice A1 8 c1) 8 r.items) (h2 : Highed wa wb (.slice A2 k2 c2) (nearsOf r.promos) k2) (h4 : High kZon wc wb.heap.size 41 (.slice A3 3 c3) 3 (zonesTo r.tax.zones 3)) (hb4 : Below wb.heap.size wb wc)
    (h5 : Own kInt we wc.heap.size 3 (fun _ => False) (.slice A4 (kindsOf r.policy.order).length c4) (kindsOf r.policy.order).length (kindsOf r.policy.order)) (hb5 : Below wc.heap.size wc we)
    (h6 : Own kInt wf we.heap.size 3 (fun _ => False) (.slice A5 (kindsOf r.policy.credit).length c5) (kindsOf r.policy.credit).length (kindsOf r.policy.credit)) (hb6 : Below we.heap.size we wf) (hn : (modN r.tax.round 3 = n0 ∧ modN r.ship.fee 900 = n1 ∧ modN r.ship.free 3 = n2 ∧ modN r.policy.window 60 = n3 ∧ modN r.policy.grace 40 = n4 ∧ modN r.policy.mode 3 = n5 ∧ modN r.policy.restock 3 = n6 ∧ modN r.policy.restock 2500 = n7)) (hW : ((((((((((((((wf.setCell ⟨w.heap.size + 1, 0, none⟩ (.slice A1 8 c1)).setCell ⟨w.heap.size + 1, 1, none⟩ (.slice A2 k2 c2)).setCell ⟨w.heap.size + 1, 2, none⟩ (.bool r.tax.incl)).setCell ⟨w.heap.size + 1, 3, none⟩ (.bool r.tax.byOrder)).setCell ⟨w.heap.size + 1, 4, none⟩ (.int .i64 (n0 : Int))).setCell ⟨w.heap.size + 1, 5, none⟩ (.slice A3 3 c3)).setCell ⟨w.heap.size + 1, 6, none⟩ (.int .i64 (n1 : Int))).setCell ⟨w.heap.size + 1, 7, none⟩ (.int .i64 ((n2 : Int) * 4000))).setCell ⟨w.heap.size + 1, 8, none⟩ (.int .i64 (20 + (n3 : Int)))).setCell ⟨w.heap.size + 1, 9, none⟩ (.int .i64 (n4 : Int))).setCell ⟨w.heap.size + 1, 10, none⟩ (.int .i64 (1 + (n5 : Int)))).setCell ⟨w.heap.size + 1, 11, none⟩ (.int .i64 ((n6 : Int) * (n7 : Int)))).setCell ⟨w.heap.size + 1, 12, none⟩ (.slice A4 (kindsOf r.policy.order).length c4)).setCell ⟨w.heap.size + 1, 13, none⟩ (.slice A5 (kindsOf r.policy.credit).length c5)) = W9) :
    Qu.Blk W9 (w.heap.size + 1) 33 ((rulesOf r).enc ⟨⟨A1, 8, c1⟩, ⟨A2, k2, c2⟩, ⟨⟨A3, 3, c3⟩⟩, ⟨⟨A4, (kindsOf r.policy.order).length, c4⟩, ⟨A5, (kindsOf r.policy.credit).length, c5⟩⟩⟩).toArray ∧ Ruled w W9 (rulesOf r) ⟨⟨A1, 8, c1⟩, ⟨A2, k2, c2⟩, ⟨⟨A3, 3, c3⟩⟩, ⟨⟨A4, (kindsOf r.policy.order).length, c4⟩, ⟨A5, (kindsOf r.policy.credit).length, c5⟩⟩⟩ ∧ Sure (rulesOf r) ∧ SR w W3 pc W9 := by
  obtain ⟨rfl, rfl, rfl, rfl, rfl, rfl, rfl, rfl⟩ := hn
  have hq := hq3.below hf
  have h0 : Below w.heap.size w wf := h3.1.trans (hf.mono h3.1.size)
  have hle : w.heap.size ≤ w.heap.size + 1 := by omega
  have h9 : Below w.heap.size w W9 := by rw [← hW]; exact ((((((((((((((h0).setCell hle _).setCell hle _).setCell hle _).setCell hle _).setCell hle _).setCell hle _).setCell hle _).setCell hle _).setCell hle _).setCell hle _).setCell hle _).setCell hle _).setCell hle _).setCell hle _
  have hblk : Qu.Blk W9 (w.heap.size + 1) 33 ((rulesOf r).enc ⟨⟨A1, 8, c1⟩, ⟨A2, k2, c2⟩, ⟨⟨A3, 3, c3⟩⟩, ⟨⟨A4, (kindsOf r.policy.order).length, c4⟩, ⟨A5, (kindsOf r.policy.credit).length, c5⟩⟩⟩).toArray := by rw [← hW]; exact puts14 hq
  have hs : wf.heap.size ≤ W9.heap.size := by rw [← hW]; simp
  have hfar : ∀ b, b ≠ w.heap.size + 1 → W9.heap[b]? = wf.heap[b]? := fun b hb => by rw [← hW, Below.heap_setCell _ _ _ _ hb, Below.heap_setCell _ _ _ _ hb, Below.heap_setCell _ _ _ _ hb, Below.heap_setCell _ _ _ _ hb, Below.heap_setCell _ _ _ _ hb, Below.heap_setCell _ _ _ _ hb, Below.heap_setCell _ _ _ _ hb, Below.heap_setCell _ _ _ _ hb, Below.heap_setCell _ _ _ _ hb, Below.heap_setCell _ _ _ _ hb, Below.heap_setCell _ _ _ _ hb, Below.heap_setCell _ _ _ _ hb, Below.heap_setCell _ _ _ _ hb, Below.heap_setCell _ _ _ _ hb]
  have hm : Below (w.heap.size + 1) W3 wf := hf.mono (by have := h3.2; omega)
  have hE := rules_end h3.1 h3.2 hu h1 h2 h4 hb4 h5 hb5 h6 hb6 hs hfar h9
  exact ⟨hblk, hE.1, hE.2, by rw [← hW]; exact ((((((((((((((hm).setCell (Nat.le_refl _) _).setCell (Nat.le_refl _) _).setCell (Nat.le_refl _) _).setCell (Nat.le_refl _) _).setCell (Nat.le_refl _) _).setCell (Nat.le_refl _) _).setCell (Nat.le_refl _) _).setCell (Nat.le_refl _) _).setCell (Nat.le_refl _) _).setCell (Nat.le_refl _) _).setCell (Nat.le_refl _) _).setCell (Nat.le_refl _) _).setCell (Nat.le_refl _) _).setCell (Nat.le_refl _) _, (hp3.below hf).as (hfar _ (by omega))⟩
set_option maxHeartbeats 20000000 in
theorem rules_near (r : Rls) (l : Rls.Lay) (w : World) (h : Rls.Holds w (· < w.heap.size) r l) (hS : Ru.RulesSmall r) :
    Calls Tryz.prog 10 #[.agg #[.slice l.items.A l.items.n l.items.c, .slice l.promos.A l.promos.n l.promos.c, .bool r.tax.incl, .bool r.tax.byOrder, .int .i64 r.tax.round, .slice l.tax.zones.A l.tax.zones.n l.tax.zones.c, .int .i64 r.ship.fee, .int .i64 r.ship.free, .int .i64 r.policy.window, .int .i64 r.policy.grace, .int .i64 r.policy.mode, .int .i64 r.policy.restock, .slice l.policy.order.A l.policy.order.n l.policy.order.c, .slice l.policy.credit.A l.policy.credit.n l.policy.credit.c]] w fun e w' => RuledAs w r e w' := by
  obtain ⟨W1, hW1⟩ : ∃ W1, w.alloc (.cells #[.slice l.items.A l.items.n l.items.c, .slice l.promos.A l.promos.n l.promos.c, .bool r.tax.incl, .bool r.tax.byOrder, .int .i64 r.tax.round, .slice l.tax.zones.A l.tax.zones.n l.tax.zones.c, .int .i64 r.ship.fee, .int .i64 r.ship.free, .int .i64 r.policy.window, .int .i64 r.policy.grace, .int .i64 r.policy.mode, .int .i64 r.policy.restock, .slice l.policy.order.A l.policy.order.n l.policy.order.c, .slice l.policy.credit.A l.policy.credit.n l.policy.credit.c] 33) = W1 := ⟨_, rfl⟩
  have hb1 : Below w.heap.size w W1 := by rw [← hW1]; exact (Below.refl _ _).alloc (Nat.le_refl _) _
  have hs1 : W1.heap.size = w.heap.size + 1 := by rw [← hW1]; simp
  have hbox : Qu.Blk W1 w.heap.size 33 #[.slice l.items.A l.items.n l.items.c, .slice l.promos.A l.promos.n l.promos.c, .bool r.tax.incl, .bool r.tax.byOrder, .int .i64 r.tax.round, .slice l.tax.zones.A l.tax.zones.n l.tax.zones.c, .int .i64 r.ship.fee, .int .i64 r.ship.free, .int .i64 r.policy.window, .int .i64 r.policy.grace, .int .i64 r.policy.mode, .int .i64 r.policy.restock, .slice l.policy.order.A l.policy.order.n l.policy.order.c, .slice l.policy.credit.A l.policy.credit.n l.policy.credit.c] := by rw [← hW1]; exact Qu.Blk.new w _ _
  obtain ⟨W2, hW2⟩ : ∃ W2, W1.alloc (.cells #[.slice none 0 0, .slice none 0 0, .bool false, .bool false, .int .i64 0, .slice none 0 0, .int .i64 0, .int .i64 0, .int .i64 0, .int .i64 0, .int .i64 0, .int .i64 0, .slice none 0 0, .slice none 0 0] 33) = W2 := ⟨_, rfl⟩
  have hb2 : Below W1.heap.size W1 W2 := by rw [← hW2]; exact (Below.refl _ _).alloc (Nat.le_refl _) _
  have hs2 : W2.heap.size = w.heap.size + 2 := by rw [← hW2]; simp [hs1]
  have hbz : Qu.Blk W2 (w.heap.size + 1) 33 #[.slice none 0 0, .slice none 0 0, .bool false, .bool false, .int .i64 0, .slice none 0 0, .int .i64 0, .int .i64 0, .int .i64 0, .int .i64 0, .int .i64 0, .int .i64 0, .slice none 0 0, .slice none 0 0] := by rw [← hW2, ← hs1]; exact Qu.Blk.new W1 _ _
  obtain ⟨W3, hW3⟩ : ∃ W3, W2.alloc (.cells #[.int .i64 r.policy.window, .int .i64 r.policy.grace, .int .i64 r.policy.mode, .int .i64 r.policy.restock, .slice l.policy.order.A l.policy.order.n l.policy.order.c, .slice l.policy.credit.A l.policy.credit.n l.policy.credit.c] 31) = W3 := ⟨_, rfl⟩
  have hb3 : Below W2.heap.size W2 W3 := by rw [← hW3]; exact (Below.refl _ _).alloc (Nat.le_refl _) _
  have hs3 : W3.heap.size = w.heap.size + 3 := by rw [← hW3]; simp [hs2]
  have hbp : Qu.Blk W3 (w.heap.size + 2) 31 #[.int .i64 r.policy.window, .int .i64 r.policy.grace, .int .i64 r.policy.mode, .int .i64 r.policy.restock, .slice l.policy.order.A l.policy.order.n l.policy.order.c, .slice l.policy.credit.A l.policy.credit.n l.policy.credit.c] := by rw [← hW3, ← hs2]; exact Qu.Blk.new W2 _ _
  have hB : Below w.heap.size w W3 := (hb1.trans (hb2.mono (by omega))).trans (hb3.mono (by omega))
  have hbx3 := (hbox.below hb2).below hb3
  have HQ := Lib.hid (hbz.below hb3)
  have HS0 := Lib.hid (And.intro hB hs3)
  have HP := Lib.hid hbp
  have SS : Hid (∀ u, Below W3.heap.size W3 u → SR w W3 #[.int .i64 r.policy.window, .int .i64 r.policy.grace, .int .i64 r.policy.mode, .int .i64 r.policy.restock, .slice l.policy.order.A l.policy.order.n l.policy.order.c, .slice l.policy.credit.A l.policy.credit.n l.policy.credit.c] u) := Lib.hid fun u hu => ⟨hu.mono (by omega), hbp.below hu⟩
  have hB0 : Hid (Below W3.heap.size W3 W3.drew) := Lib.hid (Below.refl _ _).drew
  have x0 : ∀ u, SR w W3 #[.int .i64 r.policy.window, .int .i64 r.policy.grace, .int .i64 r.policy.mode, .int .i64 r.policy.restock, .slice l.policy.order.A l.policy.order.n l.policy.order.c, .slice l.policy.credit.A l.policy.credit.n l.policy.credit.c] u → u.cell? ⟨w.heap.size, 0, none⟩ = some (.slice l.items.A l.items.n l.items.c) := fun u hu => (hu.1.cell (p := ⟨w.heap.size, _, none⟩) (by show w.heap.size < _; omega)).trans (hbx3.cell 0)
  have x1 : ∀ u, SR w W3 #[.int .i64 r.policy.window, .int .i64 r.policy.grace, .int .i64 r.policy.mode, .int .i64 r.policy.restock, .slice l.policy.order.A l.policy.order.n l.policy.order.c, .slice l.policy.credit.A l.policy.credit.n l.policy.credit.c] u → u.cell? ⟨w.heap.size, 1, none⟩ = some (.slice l.promos.A l.promos.n l.promos.c) := fun u hu => (hu.1.cell (p := ⟨w.heap.size, _, none⟩) (by show w.heap.size < _; omega)).trans (hbx3.cell 1)
  have x2 : ∀ u, SR w W3 #[.int .i64 r.policy.window, .int .i64 r.policy.grace, .int .i64 r.policy.mode, .int .i64 r.policy.restock, .slice l.policy.order.A l.policy.order.n l.policy.order.c, .slice l.policy.credit.A l.policy.credit.n l.policy.credit.c] u → u.cell? ⟨w.heap.size, 2, none⟩ = some (.bool r.tax.incl) := fun u hu => (hu.1.cell (p := ⟨w.heap.size, _, none⟩) (by show w.heap.size < _; omega)).trans (hbx3.cell 2)
  have x3 : ∀ u, SR w W3 #[.int .i64 r.policy.window, .int .i64 r.policy.grace, .int .i64 r.policy.mode, .int .i64 r.policy.restock, .slice l.policy.order.A l.policy.order.n l.policy.order.c, .slice l.policy.credit.A l.policy.credit.n l.policy.credit.c] u → u.cell? ⟨w.heap.size, 3, none⟩ = some (.bool r.tax.byOrder) := fun u hu => (hu.1.cell (p := ⟨w.heap.size, _, none⟩) (by show w.heap.size < _; omega)).trans (hbx3.cell 3)
  have x4 : ∀ u, SR w W3 #[.int .i64 r.policy.window, .int .i64 r.policy.grace, .int .i64 r.policy.mode, .int .i64 r.policy.restock, .slice l.policy.order.A l.policy.order.n l.policy.order.c, .slice l.policy.credit.A l.policy.credit.n l.policy.credit.c] u → u.cell? ⟨w.heap.size, 4, none⟩ = some (.int .i64 r.tax.round) := fun u hu => (hu.1.cell (p := ⟨w.heap.size, _, none⟩) (by show w.heap.size < _; omega)).trans (hbx3.cell 4)
  have x5 : ∀ u, SR w W3 #[.int .i64 r.policy.window, .int .i64 r.policy.grace, .int .i64 r.policy.mode, .int .i64 r.policy.restock, .slice l.policy.order.A l.policy.order.n l.policy.order.c, .slice l.policy.credit.A l.policy.credit.n l.policy.credit.c] u → u.cell? ⟨w.heap.size, 5, none⟩ = some (.slice l.tax.zones.A l.tax.zones.n l.tax.zones.c) := fun u hu => (hu.1.cell (p := ⟨w.heap.size, _, none⟩) (by show w.heap.size < _; omega)).trans (hbx3.cell 5)
  have x6 : ∀ u, SR w W3 #[.int .i64 r.policy.window, .int .i64 r.policy.grace, .int .i64 r.policy.mode, .int .i64 r.policy.restock, .slice l.policy.order.A l.policy.order.n l.policy.order.c, .slice l.policy.credit.A l.policy.credit.n l.policy.credit.c] u → u.cell? ⟨w.heap.size, 6, none⟩ = some (.int .i64 r.ship.fee) := fun u hu => (hu.1.cell (p := ⟨w.heap.size, _, none⟩) (by show w.heap.size < _; omega)).trans (hbx3.cell 6)
  have x7 : ∀ u, SR w W3 #[.int .i64 r.policy.window, .int .i64 r.policy.grace, .int .i64 r.policy.mode, .int .i64 r.policy.restock, .slice l.policy.order.A l.policy.order.n l.policy.order.c, .slice l.policy.credit.A l.policy.credit.n l.policy.credit.c] u → u.cell? ⟨w.heap.size, 7, none⟩ = some (.int .i64 r.ship.free) := fun u hu => (hu.1.cell (p := ⟨w.heap.size, _, none⟩) (by show w.heap.size < _; omega)).trans (hbx3.cell 7)
  have x8 : ∀ u, SR w W3 #[.int .i64 r.policy.window, .int .i64 r.policy.grace, .int .i64 r.policy.mode, .int .i64 r.policy.restock, .slice l.policy.order.A l.policy.order.n l.policy.order.c, .slice l.policy.credit.A l.policy.credit.n l.policy.credit.c] u → u.cell? ⟨w.heap.size, 8, none⟩ = some (.int .i64 r.policy.window) := fun u hu => (hu.1.cell (p := ⟨w.heap.size, _, none⟩) (by show w.heap.size < _; omega)).trans (hbx3.cell 8)
  have x9 : ∀ u, SR w W3 #[.int .i64 r.policy.window, .int .i64 r.policy.grace, .int .i64 r.policy.mode, .int .i64 r.policy.restock, .slice l.policy.order.A l.policy.order.n l.policy.order.c, .slice l.policy.credit.A l.policy.credit.n l.policy.credit.c] u → u.cell? ⟨w.heap.size, 9, none⟩ = some (.int .i64 r.policy.grace) := fun u hu => (hu.1.cell (p := ⟨w.heap.size, _, none⟩) (by show w.heap.size < _; omega)).trans (hbx3.cell 9)
  have x10 : ∀ u, SR w W3 #[.int .i64 r.policy.window, .int .i64 r.policy.grace, .int .i64 r.policy.mode, .int .i64 r.policy.restock, .slice l.policy.order.A l.policy.order.n l.policy.order.c, .slice l.policy.credit.A l.policy.credit.n l.policy.credit.c] u → u.cell? ⟨w.heap.size, 10, none⟩ = some (.int .i64 r.policy.mode) := fun u hu => (hu.1.cell (p := ⟨w.heap.size, _, none⟩) (by show w.heap.size < _; omega)).trans (hbx3.cell 10)
  have x11 : ∀ u, SR w W3 #[.int .i64 r.policy.window, .int .i64 r.policy.grace, .int .i64 r.policy.mode, .int .i64 r.policy.restock, .slice l.policy.order.A l.policy.order.n l.policy.order.c, .slice l.policy.credit.A l.policy.credit.n l.policy.credit.c] u → u.cell? ⟨w.heap.size, 11, none⟩ = some (.int .i64 r.policy.restock) := fun u hu => (hu.1.cell (p := ⟨w.heap.size, _, none⟩) (by show w.heap.size < _; omega)).trans (hbx3.cell 11)
  have x12 : ∀ u, SR w W3 #[.int .i64 r.policy.window, .int .i64 r.policy.grace, .int .i64 r.policy.mode, .int .i64 r.policy.restock, .slice l.policy.order.A l.policy.order.n l.policy.order.c, .slice l.policy.credit.A l.policy.credit.n l.policy.credit.c] u → u.cell? ⟨w.heap.size, 12, none⟩ = some (.slice l.policy.order.A l.policy.order.n l.policy.order.c) := fun u hu => (hu.1.cell (p := ⟨w.heap.size, _, none⟩) (by show w.heap.size < _; omega)).trans (hbx3.cell 12)
  have x13 : ∀ u, SR w W3 #[.int .i64 r.policy.window, .int .i64 r.policy.grace, .int .i64 r.policy.mode, .int .i64 r.policy.restock, .slice l.policy.order.A l.policy.order.n l.policy.order.c, .slice l.policy.credit.A l.policy.credit.n l.policy.credit.c] u → u.cell? ⟨w.heap.size, 13, none⟩ = some (.slice l.policy.credit.A l.policy.credit.n l.policy.credit.c) := fun u hu => (hu.1.cell (p := ⟨w.heap.size, _, none⟩) (by show w.heap.size < _; omega)).trans (hbx3.cell 13)
  have p0 : ∀ u, SR w W3 #[.int .i64 r.policy.window, .int .i64 r.policy.grace, .int .i64 r.policy.mode, .int .i64 r.policy.restock, .slice l.policy.order.A l.policy.order.n l.policy.order.c, .slice l.policy.credit.A l.policy.credit.n l.policy.credit.c] u → u.cell? ⟨w.heap.size + 2, 0, none⟩ = some (.int .i64 r.policy.window) := fun u hu => hu.2.cell 0
  have p1 : ∀ u, SR w W3 #[.int .i64 r.policy.window, .int .i64 r.policy.grace, .int .i64 r.policy.mode, .int .i64 r.policy.restock, .slice l.policy.order.A l.policy.order.n l.policy.order.c, .slice l.policy.credit.A l.policy.credit.n l.policy.credit.c] u → u.cell? ⟨w.heap.size + 2, 1, none⟩ = some (.int .i64 r.policy.grace) := fun u hu => hu.2.cell 1
  have p2 : ∀ u, SR w W3 #[.int .i64 r.policy.window, .int .i64 r.policy.grace, .int .i64 r.policy.mode, .int .i64 r.policy.restock, .slice l.policy.order.A l.policy.order.n l.policy.order.c, .slice l.policy.credit.A l.policy.credit.n l.policy.credit.c] u → u.cell? ⟨w.heap.size + 2, 2, none⟩ = some (.int .i64 r.policy.mode) := fun u hu => hu.2.cell 2
  have p3 : ∀ u, SR w W3 #[.int .i64 r.policy.window, .int .i64 r.policy.grace, .int .i64 r.policy.mode, .int .i64 r.policy.restock, .slice l.policy.order.A l.policy.order.n l.policy.order.c, .slice l.policy.credit.A l.policy.credit.n l.policy.credit.c] u → u.cell? ⟨w.heap.size + 2, 3, none⟩ = some (.int .i64 r.policy.restock) := fun u hu => hu.2.cell 3
  have p4 : ∀ u, SR w W3 #[.int .i64 r.policy.window, .int .i64 r.policy.grace, .int .i64 r.policy.mode, .int .i64 r.policy.restock, .slice l.policy.order.A l.policy.order.n l.policy.order.c, .slice l.policy.credit.A l.policy.credit.n l.policy.credit.c] u → u.cell? ⟨w.heap.size + 2, 4, none⟩ = some (.slice l.policy.order.A l.policy.order.n l.policy.order.c) := fun u hu => hu.2.cell 4
  have p5 : ∀ u, SR w W3 #[.int .i64 r.policy.window, .int .i64 r.policy.grace, .int .i64 r.policy.mode, .int .i64 r.policy.restock, .slice l.policy.order.A l.policy.order.n l.policy.order.c, .slice l.policy.credit.A l.policy.credit.n l.policy.credit.c] u → u.cell? ⟨w.heap.size + 2, 5, none⟩ = some (.slice l.policy.credit.A l.policy.credit.n l.policy.credit.c) := fun u hu => hu.2.cell 5
  have y8 : W2.cell? ⟨w.heap.size, 8, none⟩ = some (.int .i64 r.policy.window) := (hbox.below hb2).cell 8
  have y9 : W2.cell? ⟨w.heap.size, 9, none⟩ = some (.int .i64 r.policy.grace) := (hbox.below hb2).cell 9
  have y10 : W2.cell? ⟨w.heap.size, 10, none⟩ = some (.int .i64 r.policy.mode) := (hbox.below hb2).cell 10
  have y11 : W2.cell? ⟨w.heap.size, 11, none⟩ = some (.int .i64 r.policy.restock) := (hbox.below hb2).cell 11
  have y12 : W2.cell? ⟨w.heap.size, 12, none⟩ = some (.slice l.policy.order.A l.policy.order.n l.policy.order.c) := (hbox.below hb2).cell 12
  have y13 : W2.cell? ⟨w.heap.size, 13, none⟩ = some (.slice l.policy.credit.A l.policy.credit.n l.policy.credit.c) := (hbox.below hb2).cell 13
  have H1 : Hid (∀ u, Below W3.heap.size W3 u → Calls Tryz.prog 27 #[.slice l.items.A l.items.n l.items.c] u fun e w' => ∃ v, e = .returned v ∧ Made u w' v 8 r.items) := Lib.hid fun u hu => items_any l.items.A l.items.n l.items.c r.items u (Ru.rules_later h (hB.trans (hu.mono hB.size))).items.row (by have := hS.items; have := h.items.row.len; omega)
  have H2 : Hid (∀ u, Below W3.heap.size W3 u → Calls Tryz.prog 28 #[.slice l.promos.A l.promos.n l.promos.c] u fun e w' => ∃ v k, e = .returned v ∧ k ≤ 6 ∧ Highed u w' v (nearsOf r.promos) k) := Lib.hid fun u hu => promos_high l.promos.A l.promos.n l.promos.c r.promos u (Ru.rules_later h (hB.trans (hu.mono hB.size))).promos.row hS.promos.1 (by have := hS.promos.2; have := h.promos.row.len; omega)
  have H3 : Hid (∀ u, Below W3.heap.size W3 u → Calls Tryz.prog 18 #[.agg #[.bool r.tax.incl, .bool r.tax.byOrder, .int .i64 r.tax.round, .slice l.tax.zones.A l.tax.zones.n l.tax.zones.c]] u fun e w' => Taxed u r.tax e w') := Lib.hid fun u hu => tax_near r.tax l.tax u (Ru.rules_later h (hB.trans (hu.mono hB.size))).tax hS.zones.1 (by have := hS.zones.2; have := h.tax.zones.row.len; omega)
  have H4 : Hid (∀ u, Below W3.heap.size W3 u → Calls Tryz.prog 30 #[.slice l.policy.order.A l.policy.order.n l.policy.order.c] u fun e w' => Kinded u r.policy.order e w') := Lib.hid fun u hu => kinds_any l.policy.order.A l.policy.order.n l.policy.order.c r.policy.order u (Ru.rules_later h (hB.trans (hu.mono hB.size))).policy.order.row (by have := hS.order; have := h.policy.order.row.len; omega)
  have H5 : Hid (∀ u, Below W3.heap.size W3 u → Calls Tryz.prog 30 #[.slice l.policy.credit.A l.policy.credit.n l.policy.credit.c] u fun e w' => Kinded u r.policy.credit e w') := Lib.hid fun u hu => kinds_any l.policy.credit.A l.policy.credit.n l.policy.credit.c r.policy.credit u (Ru.rules_later h (hB.trans (hu.mono hB.size))).policy.credit.row (by have := hS.credit; have := h.policy.credit.row.len; omega)
  have HN1 := Lib.hid (fun W => mod64_any r.ship.fee 900 W (by omega) (by omega))
  have HN2 := Lib.hid (fun W => mod64_any r.ship.free 3 W (by omega) (by omega))
  have HN3 := Lib.hid (fun W => mod_any r.policy.window 60 W (by omega) (by omega))
  have HN4 := Lib.hid (fun W => mod_any r.policy.grace 40 W (by omega) (by omega))
  have HN5 := Lib.hid (fun W => mod_any r.policy.mode 3 W (by omega) (by omega))
  have HN6 := Lib.hid (fun W => mod64_any r.policy.restock 3 W (by omega) (by omega))
  have HN7 := Lib.hid (fun W => mod64_any r.policy.restock 2500 W (by omega) (by omega))
  have bn0 := modN_lt r.tax.round 3 (by omega)
  obtain ⟨n0, hn0⟩ : ∃ q, modN r.tax.round 3 = q := ⟨_, rfl⟩
  rw [hn0] at bn0
  have bn1 := modN_lt r.ship.fee 900 (by omega)
  obtain ⟨n1, hn1⟩ : ∃ q, modN r.ship.fee 900 = q := ⟨_, rfl⟩
  rw [hn1] at bn1
  have bn2 := modN_lt r.ship.free 3 (by omega)
  obtain ⟨n2, hn2⟩ : ∃ q, modN r.ship.free 3 = q := ⟨_, rfl⟩
  rw [hn2] at bn2
  have bn3 := modN_lt r.policy.window 60 (by omega)
  obtain ⟨n3, hn3⟩ : ∃ q, modN r.policy.window 60 = q := ⟨_, rfl⟩
  rw [hn3] at bn3
  have bn4 := modN_lt r.policy.grace 40 (by omega)
  obtain ⟨n4, hn4⟩ : ∃ q, modN r.policy.grace 40 = q := ⟨_, rfl⟩
  rw [hn4] at bn4
  have bn5 := modN_lt r.policy.mode 3 (by omega)
  obtain ⟨n5, hn5⟩ : ∃ q, modN r.policy.mode 3 = q := ⟨_, rfl⟩
  rw [hn5] at bn5
  have bn6 := modN_lt r.policy.restock 3 (by omega)
  obtain ⟨n6, hn6⟩ : ∃ q, modN r.policy.restock 3 = q := ⟨_, rfl⟩
  rw [hn6] at bn6
  have bn7 := modN_lt r.policy.restock 2500 (by omega)
  obtain ⟨n7, hn7⟩ : ∃ q, modN r.policy.restock 2500 = q := ⟨_, rfl⟩
  rw [hn7] at bn7
  simp only [hn1] at HN1
  simp only [hn2] at HN2
  simp only [hn3] at HN3
  simp only [hn4] at HN4
  simp only [hn5] at HN5
  simp only [hn6] at HN6
  simp only [hn7] at HN7
  have H3b : Hid (∀ u, Below W3.heap.size W3 u → Calls Tryz.prog 18 #[.agg #[.bool r.tax.incl, .bool r.tax.byOrder, .int .i64 r.tax.round, .slice l.tax.zones.A l.tax.zones.n l.tax.zones.c]] u fun e w' => ∃ v, e = .returned (.agg #[.bool r.tax.incl, .bool r.tax.byOrder, .int .i64 (n0 : Int), v]) ∧ High kZon w' u.heap.size 41 v 3 (zonesTo r.tax.zones 3) ∧ Below u.heap.size u w') := Lib.hid fun u hu => (H3.out u hu).mono fun e w' hh => by unfold Taxed at hh; rw [hn0] at hh; exact hh
  have HNs : Hid (modN r.tax.round 3 = n0 ∧ modN r.ship.fee 900 = n1 ∧ modN r.ship.free 3 = n2 ∧ modN r.policy.window 60 = n3 ∧ modN r.policy.grace 40 = n4 ∧ modN r.policy.mode 3 = n5 ∧ modN r.policy.restock 3 = n6 ∧ modN r.policy.restock 2500 = n7) := Lib.hid ⟨hn0, hn1, hn2, hn3, hn4, hn5, hn6, hn7⟩
  have w2 : IntKind.i64.wrap ((n2 : Int) * 4000) = (n2 : Int) * 4000 := IntWalk.i64_in _ (by omega)
  have w3 : IntKind.i64.wrap (20 + (n3 : Int)) = 20 + (n3 : Int) := IntWalk.i64_in _ (by omega)
  have w5 : IntKind.i64.wrap (1 + (n5 : Int)) = 1 + (n5 : Int) := IntWalk.i64_in _ (by omega)
  have m9 : (n6 : Int) * (n7 : Int) ≤ 2 * 2500 := Int.mul_le_mul (by omega) (by omega) (by omega) (by omega)
  have m10 : 0 ≤ (n6 : Int) * (n7 : Int) := Int.mul_nonneg (by omega) (by omega)
  have w7 : IntKind.i64.wrap ((n6 : Int) * (n7 : Int)) = (n6 : Int) * (n7 : Int) := IntWalk.i64_in _ (by omega)
  clear hn0 hn1 hn2 hn3 hn4 hn5 hn6 hn7 bn0 bn1 bn2 bn3 bn4 bn5 bn6 bn7 m9 m10 h hS hb1 hb2 hb3 hbox hbz hbp hB hbx3 H3 hs3
  go_enter Tryz.func10, Tryz.ntmps10
  go_upto_region 2 with (fail)
  clear hW1 hW2 hW3 hs1 hs2 y8 y9 y10 y11 y12 y13
  go_cut [] (fun wx => Hid (∃ m : Rls.Lay, Qu.Blk wx (w.heap.size + 1) 33 ((rulesOf r).enc m).toArray ∧ Ruled w wx (rulesOf r) m ∧ Sure (rulesOf r)))
  case first =>
    refine wp_region_held_drew (S := fun u => SR w W3 #[.int .i64 r.policy.window, .int .i64 r.policy.grace, .int .i64 r.policy.mode, .int .i64 r.policy.restock, .slice l.policy.order.A l.policy.order.n l.policy.order.c, .slice l.policy.credit.A l.policy.credit.n l.policy.credit.c] u) (by kernel_rfl) ((SS.out _ hB0.out)) (fun hS0 => ?_)
    refine pkT 0 6 hS0 ?_
    try simp only [Act.put, pkA, pkB, pkC]
    refine pkT 1 7 hS0 ?_
    try simp only [Act.put, pkA, pkB, pkC]
    refine pkT 3 9 hS0 ?_
    try simp only [Act.put, pkA, pkB, pkC]
    refine pkT 4 10 hS0 ?_
    try simp only [Act.put, pkA, pkB, pkC]
    refine pkT 6 12 hS0 ?_
    try simp only [Act.put, pkA, pkB, pkC]
    refine pkT 7 13 hS0 ?_
    try simp only [Act.put, pkA, pkB, pkC]
    refine pkT 9 15 hS0 ?_
    try simp only [Act.put, pkA, pkB, pkC]
    refine pkT 10 16 hS0 ?_
    try simp only [Act.put, pkA, pkB, pkC]
    refine pkT 11 17 hS0 ?_
    try simp only [Act.put, pkA, pkB, pkC]
    refine pkT 13 19 hS0 ?_
    try simp only [Act.put, pkA, pkB, pkC]
    refine pkT 14 20 hS0 ?_
    try simp only [Act.put, pkA, pkB, pkC]
    refine pkT 15 21 hS0 ?_
    try simp only [Act.put, pkA, pkB, pkC]
    refine pkT 19 25 hS0 ?_
    try simp only [Act.put, pkA, pkB, pkC]
    refine pkT 20 26 hS0 ?_
    try simp only [Act.put, pkA, pkB, pkC]
    refine pkT 23 29 hS0 ?_
    try simp only [Act.put, pkA, pkB, pkC]
    refine pkT 24 30 hS0 ?_
    try simp only [Act.put, pkA, pkB, pkC]
    refine pkT 26 32 hS0 ?_
    try simp only [Act.put, pkA, pkB, pkC]
    refine pkT 27 33 hS0 ?_
    try simp only [Act.put, pkA, pkB, pkC]
    refine pkT 30 36 hS0 ?_
    try simp only [Act.put, pkA, pkB, pkC]
    refine pkT 31 37 hS0 ?_
    try simp only [Act.put, pkA, pkB, pkC]
    refine pkT 33 39 hS0 ?_
    try simp only [Act.put, pkA, pkB, pkC]
    refine pkT 34 40 hS0 ?_
    try simp only [Act.put, pkA, pkB, pkC]
    refine pkT 37 43 hS0 ?_
    try simp only [Act.put, pkA, pkB, pkC]
    refine pkT 38 44 hS0 ?_
    try simp only [Act.put, pkA, pkB, pkC]
    refine pkT 40 46 hS0 ?_
    try simp only [Act.put, pkA, pkB, pkC]
    refine pkT 41 47 hS0 ?_
    try simp only [Act.put, pkA, pkB, pkC]
    refine wpAnyH_ready (rs := [2]) (by kernel_rfl) (by simp) ?_
    refine AllReadyH.cons (o := ⟨some 8, _, _, _, _, _⟩) rfl (fun K hK => ?_) AllReadyH.nil
    go_simp
    refine (H1.out _ hB0.out).mono ?_
    rintro e wa ⟨v1, rfl, hm1⟩
    obtain ⟨A1, c1, rfl⟩ := hm1.own.value
    have HM1 := Lib.hid hm1
    clear hm1
    have hBa := Lib.hid (Hk.andThen hB0.out HM1.out.below)
    go_wp2_with fail
    refine hK.out _ _ ((SS.out _ hBa.out)) (fun hS1 => ?_)
    clear hK K
    try simp only [Act.put, pkA, pkB, pkC]
    refine wpAnyH_ready (rs := [5]) (by kernel_rfl) (by simp) ?_
    refine AllReadyH.cons (o := ⟨some 11, _, _, _, _, _⟩) rfl (fun K hK => ?_) AllReadyH.nil
    go_simp
    refine (H2.out _ hBa.out).mono ?_
    rintro e wb ⟨v2, k2, rfl, hk2, hm2⟩
    obtain ⟨A2, c2, rfl⟩ := hm2.own.value
    have HM2 := Lib.hid hm2
    clear hm2 hk2
    have hBb := Lib.hid (Hk.andThen hBa.out HM2.out.below)
    go_wp2_with fail
    refine hK.out _ _ ((SS.out _ hBb.out)) (fun hS2 => ?_)
    clear hK K
    try simp only [Act.put, pkA, pkB, pkC]
    refine wpAnyH_ready (rs := [8]) (by kernel_rfl) (by simp) ?_
    refine AllReadyH.cons (o := ⟨some 14, _, _, _, _, _⟩) rfl (fun K hK => ?_) AllReadyH.nil
    go_simp
    refine (H3b.out _ hBb.out).mono ?_
    rintro e wc ⟨v3, rfl, hm3, hb3⟩
    obtain ⟨A3, c3, rfl⟩ := hm3.value
    have HM3 := Lib.hid (And.intro hm3 hb3)
    clear hm3 hb3
    have hBc := Lib.hid (Hk.andThen hBb.out HM3.out.2)
    go_wp2_with fail
    refine hK.out _ _ ((SS.out _ hBc.out)) (fun hS3 => ?_)
    clear hK K
    try simp only [Act.put, pkA, pkB, pkC]
    refine wpAnyH_ready (rs := [12]) (by kernel_rfl) (by simp) ?_
    refine AllReadyH.cons (o := ⟨some 18, _, _, _, _, _⟩) rfl (fun K hK => ?_) AllReadyH.nil
    go_simp
    refine (HN1.out _).mono ?_
    rintro e w18 ⟨rfl, rfl⟩
    go_wp2_with fail
    refine hK.out _ _ (hS3) (fun hS4 => ?_)
    clear hK K
    try simp only [Act.put, pkA, pkB, pkC]
    refine wpAnyH_ready (rs := [16]) (by kernel_rfl) (by simp) ?_
    refine AllReadyH.cons (o := ⟨some 22, _, _, _, _, _⟩) rfl (fun K hK => ?_) AllReadyH.nil
    go_simp
    refine (HN2.out _).mono ?_
    rintro e w22 ⟨rfl, rfl⟩
    go_wp2_with fail
    refine hK.out _ _ (hS4) (fun hS5 => ?_)
    clear hK K
    try simp only [Act.put, pkA, pkB, pkC]
    refine pkT 17 23 hS5 ?_
    try simp only [Act.put, pkA, pkB, pkC]
    refine pkT 18 24 hS5 ?_
    try simp only [Act.put, pkA, pkB, pkC]
    refine wpAnyH_ready (rs := [21]) (by kernel_rfl) (by simp) ?_
    refine AllReadyH.cons (o := ⟨some 27, _, _, _, _, _⟩) rfl (fun K hK => ?_) AllReadyH.nil
    go_simp
    refine (HN3.out _).mono ?_
    rintro e w27 ⟨rfl, rfl⟩
    go_wp2_with fail
    refine hK.out _ _ (hS5) (fun hS6 => ?_)
    clear hK K
    try simp only [Act.put, pkA, pkB, pkC]
    refine pkT 22 28 hS6 ?_
    try simp only [Act.put, pkA, pkB, pkC]
    refine wpAnyH_ready (rs := [25]) (by kernel_rfl) (by simp) ?_
    refine AllReadyH.cons (o := ⟨some 31, _, _, _, _, _⟩) rfl (fun K hK => ?_) AllReadyH.nil
    go_simp
    refine (HN4.out _).mono ?_
    rintro e w31 ⟨rfl, rfl⟩
    go_wp2_with fail
    refine hK.out _ _ (hS6) (fun hS7 => ?_)
    clear hK K
    try simp only [Act.put, pkA, pkB, pkC]
    refine wpAnyH_ready (rs := [28]) (by kernel_rfl) (by simp) ?_
    refine AllReadyH.cons (o := ⟨some 34, _, _, _, _, _⟩) rfl (fun K hK => ?_) AllReadyH.nil
    go_simp
    refine (HN5.out _).mono ?_
    rintro e w34 ⟨rfl, rfl⟩
    go_wp2_with fail
    refine hK.out _ _ (hS7) (fun hS8 => ?_)
    clear hK K
    try simp only [Act.put, pkA, pkB, pkC]
    refine pkT 29 35 hS8 ?_
    try simp only [Act.put, pkA, pkB, pkC]
    refine wpAnyH_ready (rs := [32]) (by kernel_rfl) (by simp) ?_
    refine AllReadyH.cons (o := ⟨some 38, _, _, _, _, _⟩) rfl (fun K hK => ?_) AllReadyH.nil
    go_simp
    refine (HN6.out _).mono ?_
    rintro e w38 ⟨rfl, rfl⟩
    go_wp2_with fail
    refine hK.out _ _ (hS8) (fun hS9 => ?_)
    clear hK K
    try simp only [Act.put, pkA, pkB, pkC]
    refine wpAnyH_ready (rs := [35]) (by kernel_rfl) (by simp) ?_
    refine AllReadyH.cons (o := ⟨some 41, _, _, _, _, _⟩) rfl (fun K hK => ?_) AllReadyH.nil
    go_simp
    refine (HN7.out _).mono ?_
    rintro e w41 ⟨rfl, rfl⟩
    go_wp2_with fail
    refine hK.out _ _ (hS9) (fun hS10 => ?_)
    clear hK K
    try simp only [Act.put, pkA, pkB, pkC]
    refine pkT 36 42 hS10 ?_
    try simp only [Act.put, pkA, pkB, pkC]
    refine wpAnyH_ready (rs := [39]) (by kernel_rfl) (by simp) ?_
    refine AllReadyH.cons (o := ⟨some 45, _, _, _, _, _⟩) rfl (fun K hK => ?_) AllReadyH.nil
    go_simp
    refine (H4.out _ hBc.out).mono ?_
    rintro e we ⟨v4, rfl, hm4, hb4⟩
    obtain ⟨A4, c4, rfl⟩ := hm4.value
    have HM4 := Lib.hid (And.intro hm4 hb4)
    clear hm4 hb4
    have hBd := Lib.hid (Hk.andThen hBc.out HM4.out.2)
    go_wp2_with fail
    refine hK.out _ _ ((SS.out _ hBd.out)) (fun hS11 => ?_)
    clear hK K
    try simp only [Act.put, pkA, pkB, pkC]
    refine wpAnyH_ready (rs := [42]) (by kernel_rfl) (by simp) ?_
    refine AllReadyH.cons (o := ⟨some 48, _, _, _, _, _⟩) rfl (fun K hK => ?_) AllReadyH.nil
    go_simp
    refine (H5.out _ hBd.out).mono ?_
    rintro e wf ⟨v5, rfl, hm5, hb5⟩
    obtain ⟨A5, c5, rfl⟩ := hm5.value
    have HM5 := Lib.hid (And.intro hm5 hb5)
    clear hm5 hb5
    have hBe := Lib.hid (Hk.andThen hBd.out HM5.out.2)
    go_wp2_with fail
    refine hK.out _ _ ((SS.out _ hBe.out)) (fun hS12 => ?_)
    clear hK K
    try simp only [Act.put, pkA, pkB, pkC]
    refine pkT 43 49 hS12 ?_
    try simp only [Act.put, pkA, pkB, pkC]
    refine pkT 44 50 hS12 ?_
    try simp only [Act.put, pkA, pkB, pkC]
    refine wpAnyH_ready (rs := [45]) (by kernel_rfl) (by simp) ?_
    refine AllReadyH.cons (o := ⟨none, _, _, _, _, _⟩) rfl (fun K hK => ?_) AllReadyH.nil
    have q0 := (HQ.out.below hBe.out).cell 0
    have q1 := (HQ.out.below hBe.out).cell 1
    have q2 := (HQ.out.below hBe.out).cell 2
    have q3 := (HQ.out.below hBe.out).cell 3
    have q4 := (HQ.out.below hBe.out).cell 4
    have q5 := (HQ.out.below hBe.out).cell 5
    have q6 := (HQ.out.below hBe.out).cell 6
    have q7 := (HQ.out.below hBe.out).cell 7
    have q8 := (HQ.out.below hBe.out).cell 8
    have q9 := (HQ.out.below hBe.out).cell 9
    have q10 := (HQ.out.below hBe.out).cell 10
    have q11 := (HQ.out.below hBe.out).cell 11
    have q12 := (HQ.out.below hBe.out).cell 12
    have q13 := (HQ.out.below hBe.out).cell 13
    have qf := (HQ.out.below hBe.out).frozen
    obtain ⟨W9, hW9⟩ : ∃ W9, ((((((((((((((wf.setCell ⟨w.heap.size + 1, 0, none⟩ (.slice A1 8 c1)).setCell ⟨w.heap.size + 1, 1, none⟩ (.slice A2 k2 c2)).setCell ⟨w.heap.size + 1, 2, none⟩ (.bool r.tax.incl)).setCell ⟨w.heap.size + 1, 3, none⟩ (.bool r.tax.byOrder)).setCell ⟨w.heap.size + 1, 4, none⟩ (.int .i64 (n0 : Int))).setCell ⟨w.heap.size + 1, 5, none⟩ (.slice A3 3 c3)).setCell ⟨w.heap.size + 1, 6, none⟩ (.int .i64 (n1 : Int))).setCell ⟨w.heap.size + 1, 7, none⟩ (.int .i64 ((n2 : Int) * 4000))).setCell ⟨w.heap.size + 1, 8, none⟩ (.int .i64 (20 + (n3 : Int)))).setCell ⟨w.heap.size + 1, 9, none⟩ (.int .i64 (n4 : Int))).setCell ⟨w.heap.size + 1, 10, none⟩ (.int .i64 (1 + (n5 : Int)))).setCell ⟨w.heap.size + 1, 11, none⟩ (.int .i64 ((n6 : Int) * (n7 : Int)))).setCell ⟨w.heap.size + 1, 12, none⟩ (.slice A4 (kindsOf r.policy.order).length c4)).setCell ⟨w.heap.size + 1, 13, none⟩ (.slice A5 (kindsOf r.policy.credit).length c5)) = W9 := ⟨_, rfl⟩
    have HE := Lib.hid (rules_fin (w := w) (r := r) (W9 := W9) HS0.out hB0.out hBe.out HQ.out HP.out HM1.out HM2.out HM3.out.1 HM3.out.2 HM4.out.1 HM4.out.2 HM5.out.1 HM5.out.2 HNs.out hW9)
    have HW9 := Lib.hid hW9
    clear hW9
    go_simp
    try rw [HW9.out]
    refine hK.out _ _ (HE.out.2.2.2) (fun hS13 => ?_)
    clear hK K
    try simp only [Act.put, pkA, pkB, pkC]
    refine wpAnyH_done (by kernel_rfl) ?_ _
    go_wp2_with fail
    go_meet
    exact Lib.hid ⟨_, HE.out.1, HE.out.2.1, HE.out.2.2.1⟩
  case rest =>
    obtain ⟨m, hblk, hr, hsu⟩ := hcut.out
    have HE := Lib.hid (And.intro hblk (And.intro hr hsu))
    clear hblk hr hsu hcut
    go_wp2
    refine bodyPost_ret (results_rules rfl _ _ (w.heap.size + 1) ((rulesOf r).enc m).toArray rfl HE.out.1 rfl rfl) rfl ⟨m, rfl, HE.out.2.1, HE.out.2.2⟩
end Go.Proofs.YtfcmhgneijipgaaGreat.Py
