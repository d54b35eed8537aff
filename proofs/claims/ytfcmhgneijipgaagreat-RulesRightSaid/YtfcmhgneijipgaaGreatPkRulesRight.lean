/- P13.1: whether any rules, any tax, or such as are near to them, may be; for every rules and flag. No conditions. -/
import Derived.Test.YtfcmhgneijipgaaGreatPk0
import Derived.Test.YtfcmhgneijipgaaGreatPk39

set_option maxRecDepth 100000
namespace Go.Proofs.YtfcmhgneijipgaaGreat.rulesRight
open Go.ChangeShapes Go.WideShapes Go.ChangeAt Go.RowKit
open Ap (CtR Zon Txs Shp Pol Rls Prm kCtR kZon kPrm)
open Kd (Kind Row Own Cells Fit Agree Lst Sl kStr kInt kList row_str Deep High Band)
set_option maxRecDepth 100000
set_option linter.unusedVariables false
theorem own : ownKnob Tryz.prog.godebug = none := by kernel_rfl
set_option maxHeartbeats 20000000 in
theorem walk (w : World) (r : Rls) (l : Rls.Lay) (h0 : Rls.Holds w (· < w.heap.size) r l) (a1 : Bool) :
    Calls Tryz.prog 3 #[.agg #[.slice l.items.A l.items.n l.items.c, .slice l.promos.A l.promos.n l.promos.c, .bool r.tax.incl, .bool r.tax.byOrder, .int .i64 r.tax.round, .slice l.tax.zones.A l.tax.zones.n l.tax.zones.c, .int .i64 r.ship.fee, .int .i64 r.ship.free, .int .i64 r.policy.window, .int .i64 r.policy.grace, .int .i64 r.policy.mode, .int .i64 r.policy.restock, .slice l.policy.order.A l.policy.order.n l.policy.order.c, .slice l.policy.credit.A l.policy.credit.n l.policy.credit.c], .bool a1] w fun e w' => e = .returned (.bool true) ∧ Below w.heap.size w w' := by
  obtain ⟨W1, hW1⟩ : ∃ W1, w.alloc (.cells #[.slice l.items.A l.items.n l.items.c, .slice l.promos.A l.promos.n l.promos.c, .bool r.tax.incl, .bool r.tax.byOrder, .int .i64 r.tax.round, .slice l.tax.zones.A l.tax.zones.n l.tax.zones.c, .int .i64 r.ship.fee, .int .i64 r.ship.free, .int .i64 r.policy.window, .int .i64 r.policy.grace, .int .i64 r.policy.mode, .int .i64 r.policy.restock, .slice l.policy.order.A l.policy.order.n l.policy.order.c, .slice l.policy.credit.A l.policy.credit.n l.policy.credit.c] 33) = W1 := ⟨_, rfl⟩
  have hb1 : Below w.heap.size w W1 := by rw [← hW1]; exact (Below.refl _ _).alloc (Nat.le_refl _) _
  have hblk : Qu.Blk W1 w.heap.size 33 #[.slice l.items.A l.items.n l.items.c, .slice l.promos.A l.promos.n l.promos.c, .bool r.tax.incl, .bool r.tax.byOrder, .int .i64 r.tax.round, .slice l.tax.zones.A l.tax.zones.n l.tax.zones.c, .int .i64 r.ship.fee, .int .i64 r.ship.free, .int .i64 r.policy.window, .int .i64 r.policy.grace, .int .i64 r.policy.mode, .int .i64 r.policy.restock, .slice l.policy.order.A l.policy.order.n l.policy.order.c, .slice l.policy.credit.A l.policy.credit.n l.policy.credit.c] := by rw [← hW1]; exact Qu.Blk.new w _ _
  have HF := Lib.hid (Ru.few_any r l W1 (Ru.rules_later h0 hb1))
  have HX1 : Hid (Ru.BoxR w W1 w.heap.size r l) := Lib.hid ⟨hblk, Ru.rules_later h0 hb1, hb1⟩
  have H0 := Lib.hid h0
  have x0 := hblk.cell 0
  have x1 := hblk.cell 1
  have x2 := hblk.cell 2
  have x3 := hblk.cell 3
  have x4 := hblk.cell 4
  have x5 := hblk.cell 5
  have x6 := hblk.cell 6
  have x7 := hblk.cell 7
  have x8 := hblk.cell 8
  have x9 := hblk.cell 9
  have x10 := hblk.cell 10
  have x11 := hblk.cell 11
  have x12 := hblk.cell 12
  have x13 := hblk.cell 13
  clear h0 hb1 hblk
  go_enter Tryz.func3, Tryz.ntmps3
  go_wp2_with fail
  clear hW1
  refine HF.out.mono ?_
  rintro e w2 ⟨b, rfl, hfew, hb2⟩
  have HX2 := Lib.hid (HX1.out.later hb2)
  clear hb2 x0 x1 x2 x3 x4 x5 x6 x7 x8 x9 x10 x11 x12 x13
  cases b with
  | false =>
    have HA := Lib.hid (Ru.awake_any w2)
    go_wp2_with fail
    refine HA.out.mono ?_
    rintro e w9 ⟨rfl, hb9⟩
    have HB9 := Lib.hid (HX2.out.below.trans (hb9.mono HX2.out.below.size))
    clear hb9
    go_wp2
    go_ret
    exact ⟨rfl, HB9.out⟩
  | true =>
    have HS := Lib.hid ((hfew rfl).small H0.out).1
    clear hfew
    cases a1 with
    | false =>
      have HR := Lib.hid (HX2.out.right HS.out _ (Below.refl _ _))
      obtain ⟨q, hq⟩ : ∃ q, Ru.rulesB r = q := ⟨_, rfl⟩
      simp only [hq] at HR
      have e1 : (q == q) = true := by cases q <;> rfl
      obtain ⟨p, hp⟩ : ∃ p, Ru.taxB r.tax = p := ⟨_, rfl⟩
      have e2 : (p == p) = true := by cases p <;> rfl
      have x0 := HX2.out.blk.cell 0
      have x1 := HX2.out.blk.cell 1
      have x2 := HX2.out.blk.cell 2
      have x3 := HX2.out.blk.cell 3
      have x4 := HX2.out.blk.cell 4
      have x5 := HX2.out.blk.cell 5
      have x6 := HX2.out.blk.cell 6
      have x7 := HX2.out.blk.cell 7
      have x8 := HX2.out.blk.cell 8
      have x9 := HX2.out.blk.cell 9
      have x10 := HX2.out.blk.cell 10
      have x11 := HX2.out.blk.cell 11
      have x12 := HX2.out.blk.cell 12
      have x13 := HX2.out.blk.cell 13
      go_wp2_with fail
      refine HR.out.mono ?_
      rintro e w5 ⟨rfl, hb5⟩
      have HX5 := Lib.hid (HX2.out.later hb5)
      clear hb5 x0 x1 x2 x3 x4 x5 x6 x7 x8 x9 x10 x11 x12 x13
      have HRR := Lib.hid (HX5.out.rright HS.out)
      have HT := Lib.hid (HX5.out.tax HS.out)
      have HTT := Lib.hid (HX5.out.rtax HS.out)
      simp only [hq] at HRR
      simp only [hp] at HT HTT
      have x0 : ∀ u, Below w5.heap.size w5 u → u.cell? ⟨w.heap.size, 0, none⟩ = some (.slice l.items.A l.items.n l.items.c) := fun u hu => (HX5.out.blk.below hu).cell 0
      have x1 : ∀ u, Below w5.heap.size w5 u → u.cell? ⟨w.heap.size, 1, none⟩ = some (.slice l.promos.A l.promos.n l.promos.c) := fun u hu => (HX5.out.blk.below hu).cell 1
      have x2 : ∀ u, Below w5.heap.size w5 u → u.cell? ⟨w.heap.size, 2, none⟩ = some (.bool r.tax.incl) := fun u hu => (HX5.out.blk.below hu).cell 2
      have x3 : ∀ u, Below w5.heap.size w5 u → u.cell? ⟨w.heap.size, 3, none⟩ = some (.bool r.tax.byOrder) := fun u hu => (HX5.out.blk.below hu).cell 3
      have x4 : ∀ u, Below w5.heap.size w5 u → u.cell? ⟨w.heap.size, 4, none⟩ = some (.int .i64 r.tax.round) := fun u hu => (HX5.out.blk.below hu).cell 4
      have x5 : ∀ u, Below w5.heap.size w5 u → u.cell? ⟨w.heap.size, 5, none⟩ = some (.slice l.tax.zones.A l.tax.zones.n l.tax.zones.c) := fun u hu => (HX5.out.blk.below hu).cell 5
      have x6 : ∀ u, Below w5.heap.size w5 u → u.cell? ⟨w.heap.size, 6, none⟩ = some (.int .i64 r.ship.fee) := fun u hu => (HX5.out.blk.below hu).cell 6
      have x7 : ∀ u, Below w5.heap.size w5 u → u.cell? ⟨w.heap.size, 7, none⟩ = some (.int .i64 r.ship.free) := fun u hu => (HX5.out.blk.below hu).cell 7
      have x8 : ∀ u, Below w5.heap.size w5 u → u.cell? ⟨w.heap.size, 8, none⟩ = some (.int .i64 r.policy.window) := fun u hu => (HX5.out.blk.below hu).cell 8
      have x9 : ∀ u, Below w5.heap.size w5 u → u.cell? ⟨w.heap.size, 9, none⟩ = some (.int .i64 r.policy.grace) := fun u hu => (HX5.out.blk.below hu).cell 9
      have x10 : ∀ u, Below w5.heap.size w5 u → u.cell? ⟨w.heap.size, 10, none⟩ = some (.int .i64 r.policy.mode) := fun u hu => (HX5.out.blk.below hu).cell 10
      have x11 : ∀ u, Below w5.heap.size w5 u → u.cell? ⟨w.heap.size, 11, none⟩ = some (.int .i64 r.policy.restock) := fun u hu => (HX5.out.blk.below hu).cell 11
      have x12 : ∀ u, Below w5.heap.size w5 u → u.cell? ⟨w.heap.size, 12, none⟩ = some (.slice l.policy.order.A l.policy.order.n l.policy.order.c) := fun u hu => (HX5.out.blk.below hu).cell 12
      have x13 : ∀ u, Below w5.heap.size w5 u → u.cell? ⟨w.heap.size, 13, none⟩ = some (.slice l.policy.credit.A l.policy.credit.n l.policy.credit.c) := fun u hu => (HX5.out.blk.below hu).cell 13
      clear hp hq
      go_wp2_with fail
      refine wp_region_held_drew (S := fun u => Below w5.heap.size w5 u) (by kernel_rfl) ((Below.refl _ _).drew) (fun hS0 => ?_)
      refine wpAnyH_ready (rs := [0]) (by kernel_rfl) (by simp) ?_
      refine AllReadyH.cons (o := ⟨some 15, _, _, _, _, _⟩) rfl (fun K hK => ?_) AllReadyH.nil
      go_simp
      refine (Ru.awake_on _ hS0).mono ?_
      rintro e wa ⟨rfl, ha⟩
      go_wp2_with fail
      refine hK.out _ _ (ha) (fun hS1 => ?_)
      clear hK K
      try simp only [Act.put, pkA, pkB, pkC]
      refine pkT 1 16 hS1 ?_
      try simp only [Act.put, pkA, pkB, pkC]
      refine pkT 2 17 hS1 ?_
      try simp only [Act.put, pkA, pkB, pkC]
      refine pkT 3 18 hS1 ?_
      try simp only [Act.put, pkA, pkB, pkC]
      refine wpAnyH_ready (rs := [4]) (by kernel_rfl) (by simp) ?_
      refine AllReadyH.cons (o := ⟨some 19, _, _, _, _, _⟩) rfl (fun K hK => ?_) AllReadyH.nil
      go_simp
      refine (HRR.out _ hS1).mono ?_
      rintro e wb ⟨rfl, hb⟩
      go_wp2_with fail
      refine hK.out _ _ (hb) (fun hS2 => ?_)
      clear hK K
      try simp only [Act.put, pkA, pkB, pkC]
      refine pkT 5 20 hS2 ?_
      try simp only [Act.put, pkA, pkB, pkC]
      refine pkT 6 21 hS2 ?_
      try simp only [Act.put, pkA, pkB, pkC]
      refine pkT 7 22 hS2 ?_
      try simp only [Act.put, pkA, pkB, pkC]
      refine pkT 8 23 hS2 ?_
      try simp only [Act.put, pkA, pkB, pkC]
      refine pkT 9 24 hS2 ?_
      try simp only [Act.put, pkA, pkB, pkC]
      refine pkT 11 26 hS2 ?_
      try simp only [Act.put, pkA, pkB, pkC]
      refine pkT 12 27 hS2 ?_
      try simp only [Act.put, pkA, pkB, pkC]
      refine wpAnyH_ready (rs := [10]) (by kernel_rfl) (by simp) ?_
      refine AllReadyH.cons (o := ⟨some 25, _, _, _, _, _⟩) rfl (fun K hK => ?_) AllReadyH.nil
      go_simp
      refine (HT.out _ hS2).mono ?_
      rintro e wc ⟨rfl, hc⟩
      go_wp2_with fail
      refine hK.out _ _ (hc) (fun hS3 => ?_)
      clear hK K
      try simp only [Act.put, pkA, pkB, pkC]
      refine wpAnyH_ready (rs := [13]) (by kernel_rfl) (by simp) ?_
      refine AllReadyH.cons (o := ⟨some 28, _, _, _, _, _⟩) rfl (fun K hK => ?_) AllReadyH.nil
      go_simp
      refine (HTT.out _ hS3).mono ?_
      rintro e wd ⟨rfl, hd⟩
      go_wp2_with fail
      refine hK.out _ _ (hd) (fun hS4 => ?_)
      clear hK K
      try simp only [Act.put, pkA, pkB, pkC]
      refine pkT 14 29 hS4 ?_
      try simp only [Act.put, pkA, pkB, pkC]
      refine pkT 15 30 hS4 ?_
      try simp only [Act.put, pkA, pkB, pkC]
      refine pkT 16 31 hS4 ?_
      try simp only [Act.put, pkA, pkB, pkC]
      refine pkT 17 32 hS4 ?_
      try simp only [Act.put, pkA, pkB, pkC]
      refine pkT 18 33 hS4 ?_
      try simp only [Act.put, pkA, pkB, pkC]
      refine pkT 19 34 hS4 ?_
      try simp only [Act.put, pkA, pkB, pkC]
      refine pkU 20 35 hS4 ?_
      try simp only [Act.put, pkA, pkB, pkC]
      refine pkT 21 36 hS4 ?_
      try simp only [Act.put, pkA, pkB, pkC]
      refine pkT 22 37 hS4 ?_
      try simp only [Act.put, pkA, pkB, pkC]
      refine pkT 23 4 hS4 ?_
      try simp only [Act.put, pkA, pkB, pkC]
      refine wpAnyH_done (by kernel_rfl) ?_ _
      have HB9 := Lib.hid (HX5.out.below.trans (Below.mono hS4 HX5.out.below.size))
      clear x0 x1 x2 x3 x4 x5 x6 x7 x8 x9 x10 x11 x12 x13
      go_wp2
      go_ret
      exact ⟨rfl, HB9.out⟩
    | true =>
      have HP := Lib.hid (HX2.out.played HS.out)
      have x0 := HX2.out.blk.cell 0
      have x1 := HX2.out.blk.cell 1
      have x2 := HX2.out.blk.cell 2
      have x3 := HX2.out.blk.cell 3
      have x4 := HX2.out.blk.cell 4
      have x5 := HX2.out.blk.cell 5
      have x6 := HX2.out.blk.cell 6
      have x7 := HX2.out.blk.cell 7
      have x8 := HX2.out.blk.cell 8
      have x9 := HX2.out.blk.cell 9
      have x10 := HX2.out.blk.cell 10
      have x11 := HX2.out.blk.cell 11
      have x12 := HX2.out.blk.cell 12
      have x13 := HX2.out.blk.cell 13
      go_wp2_with fail
      refine HP.out.mono ?_
      rintro e w3 ⟨m, rfl, hr, hsu⟩
      have HRu := Lib.hid hr
      have HSu := Lib.hid hsu
      obtain ⟨t, ht⟩ : ∃ t, Py.rulesOf r = t := ⟨_, rfl⟩
      rw [ht] at HRu HSu
      unfold Ap.Rls.enc
      rw [ht]
      have hbx3 := HX2.out.blk.below hr.below
      have x0 := hbx3.cell 0
      have x1 := hbx3.cell 1
      have x2 := hbx3.cell 2
      have x3 := hbx3.cell 3
      have x4 := hbx3.cell 4
      have x5 := hbx3.cell 5
      have x6 := hbx3.cell 6
      have x7 := hbx3.cell 7
      have x8 := hbx3.cell 8
      have x9 := hbx3.cell 9
      have x10 := hbx3.cell 10
      have x11 := hbx3.cell 11
      have x12 := hbx3.cell 12
      have x13 := hbx3.cell 13
      have xf := hbx3.frozen
      obtain ⟨W4, hW4⟩ : ∃ W4, ((((((((((((((w3.setCell ⟨w.heap.size, 0, none⟩ (.slice m.items.A m.items.n m.items.c)).setCell ⟨w.heap.size, 1, none⟩ (.slice m.promos.A m.promos.n m.promos.c)).setCell ⟨w.heap.size, 2, none⟩ (.bool t.tax.incl)).setCell ⟨w.heap.size, 3, none⟩ (.bool t.tax.byOrder)).setCell ⟨w.heap.size, 4, none⟩ (.int .i64 t.tax.round)).setCell ⟨w.heap.size, 5, none⟩ (.slice m.tax.zones.A m.tax.zones.n m.tax.zones.c)).setCell ⟨w.heap.size, 6, none⟩ (.int .i64 t.ship.fee)).setCell ⟨w.heap.size, 7, none⟩ (.int .i64 t.ship.free)).setCell ⟨w.heap.size, 8, none⟩ (.int .i64 t.policy.window)).setCell ⟨w.heap.size, 9, none⟩ (.int .i64 t.policy.grace)).setCell ⟨w.heap.size, 10, none⟩ (.int .i64 t.policy.mode)).setCell ⟨w.heap.size, 11, none⟩ (.int .i64 t.policy.restock)).setCell ⟨w.heap.size, 12, none⟩ (.slice m.policy.order.A m.policy.order.n m.policy.order.c)).setCell ⟨w.heap.size, 13, none⟩ (.slice m.policy.credit.A m.policy.credit.n m.policy.credit.c)) = W4 := ⟨_, rfl⟩
      have HX4 := Lib.hid (HX2.out.store (Nat.le_refl _) HRu.out hW4).1
      have HS4 := Lib.hid HSu.out.small
      have hmay := HSu.out.may
      have hw4 := Lib.hid hW4
      clear hr hsu hbx3 ht HX1 HX2 HF hW4
      go_upto_region 5 with (fail)
      try rw [hw4.out]
      clear x0 x1 x2 x3 x4 x5 x6 x7 x8 x9 x10 x11 x12 x13 xf hw4
      have HR := Lib.hid (HX4.out.right HS4.out _ (Below.refl _ _))
      simp only [hmay] at HR
      obtain ⟨p, hp⟩ : ∃ p, Ru.taxB t.tax = p := ⟨_, rfl⟩
      have e2 : (p == p) = true := by cases p <;> rfl
      have x0 := HX4.out.blk.cell 0
      have x1 := HX4.out.blk.cell 1
      have x2 := HX4.out.blk.cell 2
      have x3 := HX4.out.blk.cell 3
      have x4 := HX4.out.blk.cell 4
      have x5 := HX4.out.blk.cell 5
      have x6 := HX4.out.blk.cell 6
      have x7 := HX4.out.blk.cell 7
      have x8 := HX4.out.blk.cell 8
      have x9 := HX4.out.blk.cell 9
      have x10 := HX4.out.blk.cell 10
      have x11 := HX4.out.blk.cell 11
      have x12 := HX4.out.blk.cell 12
      have x13 := HX4.out.blk.cell 13
      go_wp2_with fail
      refine HR.out.mono ?_
      rintro e w5 ⟨rfl, hb5⟩
      have HX5 := Lib.hid (HX4.out.later hb5)
      clear hb5 x0 x1 x2 x3 x4 x5 x6 x7 x8 x9 x10 x11 x12 x13
      have HRR := Lib.hid (HX5.out.rright HS4.out)
      have HT := Lib.hid (HX5.out.tax HS4.out)
      have HTT := Lib.hid (HX5.out.rtax HS4.out)
      simp only [hmay] at HRR
      simp only [hp] at HT HTT
      have x0 : ∀ u, Below w5.heap.size w5 u → u.cell? ⟨w.heap.size, 0, none⟩ = some (.slice m.items.A m.items.n m.items.c) := fun u hu => (HX5.out.blk.below hu).cell 0
      have x1 : ∀ u, Below w5.heap.size w5 u → u.cell? ⟨w.heap.size, 1, none⟩ = some (.slice m.promos.A m.promos.n m.promos.c) := fun u hu => (HX5.out.blk.below hu).cell 1
      have x2 : ∀ u, Below w5.heap.size w5 u → u.cell? ⟨w.heap.size, 2, none⟩ = some (.bool t.tax.incl) := fun u hu => (HX5.out.blk.below hu).cell 2
      have x3 : ∀ u, Below w5.heap.size w5 u → u.cell? ⟨w.heap.size, 3, none⟩ = some (.bool t.tax.byOrder) := fun u hu => (HX5.out.blk.below hu).cell 3
      have x4 : ∀ u, Below w5.heap.size w5 u → u.cell? ⟨w.heap.size, 4, none⟩ = some (.int .i64 t.tax.round) := fun u hu => (HX5.out.blk.below hu).cell 4
      have x5 : ∀ u, Below w5.heap.size w5 u → u.cell? ⟨w.heap.size, 5, none⟩ = some (.slice m.tax.zones.A m.tax.zones.n m.tax.zones.c) := fun u hu => (HX5.out.blk.below hu).cell 5
      have x6 : ∀ u, Below w5.heap.size w5 u → u.cell? ⟨w.heap.size, 6, none⟩ = some (.int .i64 t.ship.fee) := fun u hu => (HX5.out.blk.below hu).cell 6
      have x7 : ∀ u, Below w5.heap.size w5 u → u.cell? ⟨w.heap.size, 7, none⟩ = some (.int .i64 t.ship.free) := fun u hu => (HX5.out.blk.below hu).cell 7
      have x8 : ∀ u, Below w5.heap.size w5 u → u.cell? ⟨w.heap.size, 8, none⟩ = some (.int .i64 t.policy.window) := fun u hu => (HX5.out.blk.below hu).cell 8
      have x9 : ∀ u, Below w5.heap.size w5 u → u.cell? ⟨w.heap.size, 9, none⟩ = some (.int .i64 t.policy.grace) := fun u hu => (HX5.out.blk.below hu).cell 9
      have x10 : ∀ u, Below w5.heap.size w5 u → u.cell? ⟨w.heap.size, 10, none⟩ = some (.int .i64 t.policy.mode) := fun u hu => (HX5.out.blk.below hu).cell 10
      have x11 : ∀ u, Below w5.heap.size w5 u → u.cell? ⟨w.heap.size, 11, none⟩ = some (.int .i64 t.policy.restock) := fun u hu => (HX5.out.blk.below hu).cell 11
      have x12 : ∀ u, Below w5.heap.size w5 u → u.cell? ⟨w.heap.size, 12, none⟩ = some (.slice m.policy.order.A m.policy.order.n m.policy.order.c) := fun u hu => (HX5.out.blk.below hu).cell 12
      have x13 : ∀ u, Below w5.heap.size w5 u → u.cell? ⟨w.heap.size, 13, none⟩ = some (.slice m.policy.credit.A m.policy.credit.n m.policy.credit.c) := fun u hu => (HX5.out.blk.below hu).cell 13
      clear hp hmay
      go_wp2_with fail
      refine wp_region_held_drew (S := fun u => Below w5.heap.size w5 u) (by kernel_rfl) ((Below.refl _ _).drew) (fun hS0 => ?_)
      refine wpAnyH_ready (rs := [0]) (by kernel_rfl) (by simp) ?_
      refine AllReadyH.cons (o := ⟨some 15, _, _, _, _, _⟩) rfl (fun K hK => ?_) AllReadyH.nil
      go_simp
      refine (Ru.awake_on _ hS0).mono ?_
      rintro e wa ⟨rfl, ha⟩
      go_wp2_with fail
      refine hK.out _ _ (ha) (fun hS1 => ?_)
      clear hK K
      try simp only [Act.put, pkA, pkB, pkC]
      refine pkT 1 16 hS1 ?_
      try simp only [Act.put, pkA, pkB, pkC]
      refine pkT 2 17 hS1 ?_
      try simp only [Act.put, pkA, pkB, pkC]
      refine pkT 3 18 hS1 ?_
      try simp only [Act.put, pkA, pkB, pkC]
      refine wpAnyH_ready (rs := [4]) (by kernel_rfl) (by simp) ?_
      refine AllReadyH.cons (o := ⟨some 19, _, _, _, _, _⟩) rfl (fun K hK => ?_) AllReadyH.nil
      go_simp
      refine (HRR.out _ hS1).mono ?_
      rintro e wb ⟨rfl, hb⟩
      go_wp2_with fail
      refine hK.out _ _ (hb) (fun hS2 => ?_)
      clear hK K
      try simp only [Act.put, pkA, pkB, pkC]
      refine pkT 5 20 hS2 ?_
      try simp only [Act.put, pkA, pkB, pkC]
      refine pkT 6 21 hS2 ?_
      try simp only [Act.put, pkA, pkB, pkC]
      refine pkT 7 22 hS2 ?_
      try simp only [Act.put, pkA, pkB, pkC]
      refine pkT 8 23 hS2 ?_
      try simp only [Act.put, pkA, pkB, pkC]
      refine pkT 9 24 hS2 ?_
      try simp only [Act.put, pkA, pkB, pkC]
      refine pkT 11 26 hS2 ?_
      try simp only [Act.put, pkA, pkB, pkC]
      refine pkT 12 27 hS2 ?_
      try simp only [Act.put, pkA, pkB, pkC]
      refine wpAnyH_ready (rs := [10]) (by kernel_rfl) (by simp) ?_
      refine AllReadyH.cons (o := ⟨some 25, _, _, _, _, _⟩) rfl (fun K hK => ?_) AllReadyH.nil
      go_simp
      refine (HT.out _ hS2).mono ?_
      rintro e wc ⟨rfl, hc⟩
      go_wp2_with fail
      refine hK.out _ _ (hc) (fun hS3 => ?_)
      clear hK K
      try simp only [Act.put, pkA, pkB, pkC]
      refine wpAnyH_ready (rs := [13]) (by kernel_rfl) (by simp) ?_
      refine AllReadyH.cons (o := ⟨some 28, _, _, _, _, _⟩) rfl (fun K hK => ?_) AllReadyH.nil
      go_simp
      refine (HTT.out _ hS3).mono ?_
      rintro e wd ⟨rfl, hd⟩
      go_wp2_with fail
      refine hK.out _ _ (hd) (fun hS4 => ?_)
      clear hK K
      try simp only [Act.put, pkA, pkB, pkC]
      refine pkT 14 29 hS4 ?_
      try simp only [Act.put, pkA, pkB, pkC]
      refine pkT 15 30 hS4 ?_
      try simp only [Act.put, pkA, pkB, pkC]
      refine pkT 16 31 hS4 ?_
      try simp only [Act.put, pkA, pkB, pkC]
      refine pkT 17 32 hS4 ?_
      try simp only [Act.put, pkA, pkB, pkC]
      refine pkT 18 33 hS4 ?_
      try simp only [Act.put, pkA, pkB, pkC]
      refine pkT 19 34 hS4 ?_
      try simp only [Act.put, pkA, pkB, pkC]
      refine pkT 20 35 hS4 ?_
      try simp only [Act.put, pkA, pkB, pkC]
      refine pkT 21 36 hS4 ?_
      try simp only [Act.put, pkA, pkB, pkC]
      refine pkT 22 37 hS4 ?_
      try simp only [Act.put, pkA, pkB, pkC]
      refine pkT 23 4 hS4 ?_
      try simp only [Act.put, pkA, pkB, pkC]
      refine wpAnyH_done (by kernel_rfl) ?_ _
      have HB9 := Lib.hid (HX5.out.below.trans (Below.mono hS4 HX5.out.below.size))
      clear x0 x1 x2 x3 x4 x5 x6 x7 x8 x9 x10 x11 x12 x13
      go_wp2
      go_ret
      exact ⟨rfl, HB9.out⟩
set_option maxRecDepth 100000 in
theorem lifted (os : Os) (started : os.Started) (H : Type) (enc : TypeId × Value → H) :
    ReturnsInHanded {} Tryz.checked os 3 .any (Rows.rulesRightSpec.pre6 enc Tryz.prog Tryz.f3 Rows.rulesRightRow.domain false) (Rows.rulesRightSpec.post enc Tryz.prog Tryz.f3 false true false false) := by
  refine returnsInHanded_of_change (C := Tryz.checked) own started (by kernel_rfl) Tryz.func3
    (ChangeSpec.witness6 (enc := enc) (C := Tryz.checked) false ⟨#[], #[.agg #[.slice none 0 0, .slice none 0 0, .bool false, .bool false, .int .i64 0, .slice none 0 0, .int .i64 0, .int .i64 0, .int .i64 0, .int .i64 0, .int .i64 0, .int .i64 0, .slice none 0 0, .slice none 0 0], .bool false], []⟩ 8 (by kernel_rfl) (by kernel_rfl) (by kernel_rfl) (by kernel_rfl)) ?_
  intro W base args ds gs before hval0 hW hcnd _
  have hval : ∀ (j : Nat) t v, Tryz.f3.params[j]? = some t → args[j]? = some v → Value.okWide Tryz.prog W .any base t v := hval0
  have hW' := hW
  obtain ⟨p, q, hA0, hV, rfl, hfz, hnd⟩ := hW
  have hA : DataW.TrodAll enc Tryz.prog W 0 (fun _ => true) true Tryz.f3.params.toList args.toList ds p := hA0
  rw [Tryz.params3] at hA hval
  obtain ⟨v0, vs0, d0, ds0, p0, q0, hargs, rfl, rfl, h0, r0⟩ := trodAll_cons hA
  obtain ⟨v1, vs1, d1, ds1, p1, q1, rfl, rfl, rfl, h1, r1⟩ := trodAll_cons r0
  obtain ⟨rfl, rfl, rfl⟩ := trodAll_nil r1
  obtain rfl : args = #[v0, v1] := by cases args; simp_all
  obtain ⟨cs0, p0, rfl, r0⟩ := Kd.open_struct Ap.reads_Rls Tryz.underlying33 (hval 0 33 v0 rfl rfl) h0; obtain ⟨l0, rfl, x0⟩ := Ap.Rls_rep.1 r0
  obtain ⟨a1, rfl, _, _⟩ := open_bool Tryz.underlying4 (hval 1 4 v1 rfl rfl) h1
  refine (walk W p0 l0 x0 a1).mono fun e W' ⟨he, hb⟩ => ?_
  subst he
  exact ⟨_, rfl, Hk.closeLaw (tb := 4) (by kernel_rfl) (by kernel_rfl) rfl rfl rfl Tryz.underlying4 hW' hb⟩
theorem over : Rows.rulesRightRow.holds Tryz.pinned (OpenSpec.ofChange Rows.rulesRightSpec) :=
  OpenClaim.holds_of_wide 3 Tryz.f3 rfl rfl rfl rfl rfl rfl rfl ⟨rfl, rfl, rfl, rfl, rfl⟩ rfl rfl rfl rfl rfl (by kernel_rfl) Tryz.func3 (by kernel_rfl)
    (of_decide_eq_true (by kernel_rfl)) (by unfold Func.isWrapper; first | (rw [if_pos (by decide +kernel)]; kernel_rfl) | (rw [if_neg (by decide +kernel)]; exact ⟨rfl, rfl⟩))
    (fun os started H enc _ => lifted os started H enc)
theorem proved : Rows.RulesRightSaid :=
  over
end Go.Proofs.YtfcmhgneijipgaaGreat.rulesRight
