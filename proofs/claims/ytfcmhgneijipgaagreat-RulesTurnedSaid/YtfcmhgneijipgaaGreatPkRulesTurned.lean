/- P13.1: rules that may be with one thing turned; they are not the same then; for every rules, numbers and text. No conditions. -/
import Derived.Test.YtfcmhgneijipgaaGreatPkRwH
import Derived.Test.YtfcmhgneijipgaaGreatPk1

set_option maxRecDepth 100000
namespace Go.Proofs.YtfcmhgneijipgaaGreat.rulesTurned
open Go.ChangeShapes Go.WideShapes Go.ChangeAt Go.RowKit
open Ap (CtR Zon Txs Shp Pol Rls Prm kCtR kZon kPrm)
open Kd (Kind Row Own Cells Fit Agree Lst Sl kStr kInt kList row_str Deep High)
set_option maxRecDepth 100000
set_option linter.unusedVariables false
theorem own : ownKnob Tryz.prog.godebug = none := by kernel_rfl
set_option maxHeartbeats 40000000 in
theorem walk (w : World) (r : Rls) (l : Rls.Lay) (h0 : Rls.Holds w (· < w.heap.size) r l) (a1 : Int) (w1 : (Lit.int .i64 a1).wf = true) (a2 : Int) (w2 : (Lit.int .i64 a2).wf = true) (s : ByteArray) (hs : s.size ≤ maxLen) :
    Calls Tryz.prog 4 #[.agg #[.slice l.items.A l.items.n l.items.c, .slice l.promos.A l.promos.n l.promos.c, .bool r.tax.incl, .bool r.tax.byOrder, .int .i64 r.tax.round, .slice l.tax.zones.A l.tax.zones.n l.tax.zones.c, .int .i64 r.ship.fee, .int .i64 r.ship.free, .int .i64 r.policy.window, .int .i64 r.policy.grace, .int .i64 r.policy.mode, .int .i64 r.policy.restock, .slice l.policy.order.A l.policy.order.n l.policy.order.c, .slice l.policy.credit.A l.policy.credit.n l.policy.credit.c], .int .i64 a1, .int .i64 a2, .string s] w fun e w' => e = .returned (.bool true) ∧ Below w.heap.size w w' := by
  obtain ⟨W1, hW1⟩ : ∃ W1, w.alloc (.cells #[.slice l.items.A l.items.n l.items.c, .slice l.promos.A l.promos.n l.promos.c, .bool r.tax.incl, .bool r.tax.byOrder, .int .i64 r.tax.round, .slice l.tax.zones.A l.tax.zones.n l.tax.zones.c, .int .i64 r.ship.fee, .int .i64 r.ship.free, .int .i64 r.policy.window, .int .i64 r.policy.grace, .int .i64 r.policy.mode, .int .i64 r.policy.restock, .slice l.policy.order.A l.policy.order.n l.policy.order.c, .slice l.policy.credit.A l.policy.credit.n l.policy.credit.c] 33) = W1 := ⟨_, rfl⟩
  have hb1 : Below w.heap.size w W1 := by rw [← hW1]; exact (Below.refl _ _).alloc (Nat.le_refl _) _
  have hblk : Qu.Blk W1 w.heap.size 33 #[.slice l.items.A l.items.n l.items.c, .slice l.promos.A l.promos.n l.promos.c, .bool r.tax.incl, .bool r.tax.byOrder, .int .i64 r.tax.round, .slice l.tax.zones.A l.tax.zones.n l.tax.zones.c, .int .i64 r.ship.fee, .int .i64 r.ship.free, .int .i64 r.policy.window, .int .i64 r.policy.grace, .int .i64 r.policy.mode, .int .i64 r.policy.restock, .slice l.policy.order.A l.policy.order.n l.policy.order.c, .slice l.policy.credit.A l.policy.credit.n l.policy.credit.c] := by rw [← hW1]; exact Qu.Blk.new w _ _
  have HF := Lib.hid (Ru.few_any r l W1 (Ru.rules_later h0 hb1))
  have HX1 : Hid (Ru.BoxR w W1 w.heap.size r l) := Lib.hid ⟨hblk, Ru.rules_later h0 hb1, hb1⟩
  have H0 := Lib.hid h0
  have hn2 : -9223372036854775808 ≤ a2 ∧ a2 ≤ 9223372036854775807 := Hk.wf_bounds w2
  have HN2 := Lib.hid hn2
  have HSz := Lib.hid hs
  have x0 : W1.cell? ⟨w.heap.size, 0, none⟩ = some (.slice l.items.A l.items.n l.items.c) := hblk.cell 0
  have x1 : W1.cell? ⟨w.heap.size, 1, none⟩ = some (.slice l.promos.A l.promos.n l.promos.c) := hblk.cell 1
  have x2 : W1.cell? ⟨w.heap.size, 2, none⟩ = some (.bool r.tax.incl) := hblk.cell 2
  have x3 : W1.cell? ⟨w.heap.size, 3, none⟩ = some (.bool r.tax.byOrder) := hblk.cell 3
  have x4 : W1.cell? ⟨w.heap.size, 4, none⟩ = some (.int .i64 r.tax.round) := hblk.cell 4
  have x5 : W1.cell? ⟨w.heap.size, 5, none⟩ = some (.slice l.tax.zones.A l.tax.zones.n l.tax.zones.c) := hblk.cell 5
  have x6 : W1.cell? ⟨w.heap.size, 6, none⟩ = some (.int .i64 r.ship.fee) := hblk.cell 6
  have x7 : W1.cell? ⟨w.heap.size, 7, none⟩ = some (.int .i64 r.ship.free) := hblk.cell 7
  have x8 : W1.cell? ⟨w.heap.size, 8, none⟩ = some (.int .i64 r.policy.window) := hblk.cell 8
  have x9 : W1.cell? ⟨w.heap.size, 9, none⟩ = some (.int .i64 r.policy.grace) := hblk.cell 9
  have x10 : W1.cell? ⟨w.heap.size, 10, none⟩ = some (.int .i64 r.policy.mode) := hblk.cell 10
  have x11 : W1.cell? ⟨w.heap.size, 11, none⟩ = some (.int .i64 r.policy.restock) := hblk.cell 11
  have x12 : W1.cell? ⟨w.heap.size, 12, none⟩ = some (.slice l.policy.order.A l.policy.order.n l.policy.order.c) := hblk.cell 12
  have x13 : W1.cell? ⟨w.heap.size, 13, none⟩ = some (.slice l.policy.credit.A l.policy.credit.n l.policy.credit.c) := hblk.cell 13
  clear h0 hb1 hblk w1 w2 hn2 hs
  go_enter Tryz.func4, Tryz.ntmps4
  go_wp2_with fail
  clear hW1
  refine HF.out.mono ?_
  rintro e w2 ⟨b, rfl, hfew, hb2⟩
  have HX2 := Lib.hid (HX1.out.later hb2)
  clear hb2 x0 x1 x2 x3 x4 x5 x6 x7 x8 x9 x10 x11 x12 x13
  cases b with
  | false =>
    have HA := Lib.hid (Ru.awake_any w2)
    go_wp2_with fail
    refine HA.out.mono ?_
    rintro e w9 ⟨rfl, hb9⟩
    have HB9 := Lib.hid (HX2.out.below.trans (hb9.mono HX2.out.below.size))
    clear hb9
    go_wp2
    go_ret
    exact ⟨rfl, HB9.out⟩
  | true =>
    have HS := Lib.hid ((hfew rfl).small H0.out).1
    clear hfew
    by_cases t0 : 60 < s.size
    · have q0 : (60 : Int) < (s.size : Int) := by omega
      have HA := Lib.hid (Ru.awake_any w2)
      go_wp2_with fail
      refine HA.out.mono ?_
      rintro e w9 ⟨rfl, hb9⟩
      have HB9 := Lib.hid (HX2.out.below.trans (hb9.mono HX2.out.below.size))
      clear hb9
      go_wp2
      go_ret
      exact ⟨rfl, HB9.out⟩
    · have q0 : ¬ (60 : Int) < (s.size : Int) := by omega
      have HP := Lib.hid (HX2.out.played HS.out)
      have x0 : w2.cell? ⟨w.heap.size, 0, none⟩ = some (.slice l.items.A l.items.n l.items.c) := HX2.out.blk.cell 0
      have x1 : w2.cell? ⟨w.heap.size, 1, none⟩ = some (.slice l.promos.A l.promos.n l.promos.c) := HX2.out.blk.cell 1
      have x2 : w2.cell? ⟨w.heap.size, 2, none⟩ = some (.bool r.tax.incl) := HX2.out.blk.cell 2
      have x3 : w2.cell? ⟨w.heap.size, 3, none⟩ = some (.bool r.tax.byOrder) := HX2.out.blk.cell 3
      have x4 : w2.cell? ⟨w.heap.size, 4, none⟩ = some (.int .i64 r.tax.round) := HX2.out.blk.cell 4
      have x5 : w2.cell? ⟨w.heap.size, 5, none⟩ = some (.slice l.tax.zones.A l.tax.zones.n l.tax.zones.c) := HX2.out.blk.cell 5
      have x6 : w2.cell? ⟨w.heap.size, 6, none⟩ = some (.int .i64 r.ship.fee) := HX2.out.blk.cell 6
      have x7 : w2.cell? ⟨w.heap.size, 7, none⟩ = some (.int .i64 r.ship.free) := HX2.out.blk.cell 7
      have x8 : w2.cell? ⟨w.heap.size, 8, none⟩ = some (.int .i64 r.policy.window) := HX2.out.blk.cell 8
      have x9 : w2.cell? ⟨w.heap.size, 9, none⟩ = some (.int .i64 r.policy.grace) := HX2.out.blk.cell 9
      have x10 : w2.cell? ⟨w.heap.size, 10, none⟩ = some (.int .i64 r.policy.mode) := HX2.out.blk.cell 10
      have x11 : w2.cell? ⟨w.heap.size, 11, none⟩ = some (.int .i64 r.policy.restock) := HX2.out.blk.cell 11
      have x12 : w2.cell? ⟨w.heap.size, 12, none⟩ = some (.slice l.policy.order.A l.policy.order.n l.policy.order.c) := HX2.out.blk.cell 12
      have x13 : w2.cell? ⟨w.heap.size, 13, none⟩ = some (.slice l.policy.credit.A l.policy.credit.n l.policy.credit.c) := HX2.out.blk.cell 13
      go_wp2_with fail
      refine HP.out.mono ?_
      rintro e w3 ⟨m, rfl, hr, hsu⟩
      have HRu := Lib.hid hr
      have HSu := Lib.hid hsu
      obtain ⟨t, ht⟩ : ∃ t, Py.rulesOf r = t := ⟨_, rfl⟩
      rw [ht] at HRu HSu
      unfold Ap.Rls.enc
      rw [ht]
      have hbx3 := HX2.out.blk.below hr.below
      clear x0 x1 x2 x3 x4 x5 x6 x7 x8 x9 x10 x11 x12 x13
      have x0 : w3.cell? ⟨w.heap.size, 0, none⟩ = some (.slice l.items.A l.items.n l.items.c) := hbx3.cell 0
      have x1 : w3.cell? ⟨w.heap.size, 1, none⟩ = some (.slice l.promos.A l.promos.n l.promos.c) := hbx3.cell 1
      have x2 : w3.cell? ⟨w.heap.size, 2, none⟩ = some (.bool r.tax.incl) := hbx3.cell 2
      have x3 : w3.cell? ⟨w.heap.size, 3, none⟩ = some (.bool r.tax.byOrder) := hbx3.cell 3
      have x4 : w3.cell? ⟨w.heap.size, 4, none⟩ = some (.int .i64 r.tax.round) := hbx3.cell 4
      have x5 : w3.cell? ⟨w.heap.size, 5, none⟩ = some (.slice l.tax.zones.A l.tax.zones.n l.tax.zones.c) := hbx3.cell 5
      have x6 : w3.cell? ⟨w.heap.size, 6, none⟩ = some (.int .i64 r.ship.fee) := hbx3.cell 6
      have x7 : w3.cell? ⟨w.heap.size, 7, none⟩ = some (.int .i64 r.ship.free) := hbx3.cell 7
      have x8 : w3.cell? ⟨w.heap.size, 8, none⟩ = some (.int .i64 r.policy.window) := hbx3.cell 8
      have x9 : w3.cell? ⟨w.heap.size, 9, none⟩ = some (.int .i64 r.policy.grace) := hbx3.cell 9
      have x10 : w3.cell? ⟨w.heap.size, 10, none⟩ = some (.int .i64 r.policy.mode) := hbx3.cell 10
      have x11 : w3.cell? ⟨w.heap.size, 11, none⟩ = some (.int .i64 r.policy.restock) := hbx3.cell 11
      have x12 : w3.cell? ⟨w.heap.size, 12, none⟩ = some (.slice l.policy.order.A l.policy.order.n l.policy.order.c) := hbx3.cell 12
      have x13 : w3.cell? ⟨w.heap.size, 13, none⟩ = some (.slice l.policy.credit.A l.policy.credit.n l.policy.credit.c) := hbx3.cell 13
      have xf := hbx3.frozen
      obtain ⟨W4, hW4⟩ : ∃ W4, ((((((((((((((w3.setCell ⟨w.heap.size, 0, none⟩ (.slice m.items.A m.items.n m.items.c)).setCell ⟨w.heap.size, 1, none⟩ (.slice m.promos.A m.promos.n m.promos.c)).setCell ⟨w.heap.size, 2, none⟩ (.bool t.tax.incl)).setCell ⟨w.heap.size, 3, none⟩ (.bool t.tax.byOrder)).setCell ⟨w.heap.size, 4, none⟩ (.int .i64 t.tax.round)).setCell ⟨w.heap.size, 5, none⟩ (.slice m.tax.zones.A m.tax.zones.n m.tax.zones.c)).setCell ⟨w.heap.size, 6, none⟩ (.int .i64 t.ship.fee)).setCell ⟨w.heap.size, 7, none⟩ (.int .i64 t.ship.free)).setCell ⟨w.heap.size, 8, none⟩ (.int .i64 t.policy.window)).setCell ⟨w.heap.size, 9, none⟩ (.int .i64 t.policy.grace)).setCell ⟨w.heap.size, 10, none⟩ (.int .i64 t.policy.mode)).setCell ⟨w.heap.size, 11, none⟩ (.int .i64 t.policy.restock)).setCell ⟨w.heap.size, 12, none⟩ (.slice m.policy.order.A m.policy.order.n m.policy.order.c)).setCell ⟨w.heap.size, 13, none⟩ (.slice m.policy.credit.A m.policy.credit.n m.policy.credit.c)) = W4 := ⟨_, rfl⟩
      have HX4 := Lib.hid (HX2.out.store (Nat.le_refl _) HRu.out hW4).1
      have hw4 := Lib.hid hW4
      have HP4 := Lib.hid (HX4.out.played HSu.out.small)
      clear hr hsu hbx3 ht HX1 HX2 HF hW4 HP
      go_upto_region 4 with (fail)
      try rw [hw4.out]
      clear x0 x1 x2 x3 x4 x5 x6 x7 x8 x9 x10 x11 x12 x13 xf hw4
      have x0 : W4.cell? ⟨w.heap.size, 0, none⟩ = some (.slice m.items.A m.items.n m.items.c) := HX4.out.blk.cell 0
      have x1 : W4.cell? ⟨w.heap.size, 1, none⟩ = some (.slice m.promos.A m.promos.n m.promos.c) := HX4.out.blk.cell 1
      have x2 : W4.cell? ⟨w.heap.size, 2, none⟩ = some (.bool t.tax.incl) := HX4.out.blk.cell 2
      have x3 : W4.cell? ⟨w.heap.size, 3, none⟩ = some (.bool t.tax.byOrder) := HX4.out.blk.cell 3
      have x4 : W4.cell? ⟨w.heap.size, 4, none⟩ = some (.int .i64 t.tax.round) := HX4.out.blk.cell 4
      have x5 : W4.cell? ⟨w.heap.size, 5, none⟩ = some (.slice m.tax.zones.A m.tax.zones.n m.tax.zones.c) := HX4.out.blk.cell 5
      have x6 : W4.cell? ⟨w.heap.size, 6, none⟩ = some (.int .i64 t.ship.fee) := HX4.out.blk.cell 6
      have x7 : W4.cell? ⟨w.heap.size, 7, none⟩ = some (.int .i64 t.ship.free) := HX4.out.blk.cell 7
      have x8 : W4.cell? ⟨w.heap.size, 8, none⟩ = some (.int .i64 t.policy.window) := HX4.out.blk.cell 8
      have x9 : W4.cell? ⟨w.heap.size, 9, none⟩ = some (.int .i64 t.policy.grace) := HX4.out.blk.cell 9
      have x10 : W4.cell? ⟨w.heap.size, 10, none⟩ = some (.int .i64 t.policy.mode) := HX4.out.blk.cell 10
      have x11 : W4.cell? ⟨w.heap.size, 11, none⟩ = some (.int .i64 t.policy.restock) := HX4.out.blk.cell 11
      have x12 : W4.cell? ⟨w.heap.size, 12, none⟩ = some (.slice m.policy.order.A m.policy.order.n m.policy.order.c) := HX4.out.blk.cell 12
      have x13 : W4.cell? ⟨w.heap.size, 13, none⟩ = some (.slice m.policy.credit.A m.policy.credit.n m.policy.credit.c) := HX4.out.blk.cell 13
      go_wp2_with fail
      refine HP4.out.mono ?_
      rintro e w5 ⟨m2, rfl, hr2, hsu2⟩
      obtain ⟨q, hq⟩ : ∃ q, Py.rulesOf t = q := ⟨_, rfl⟩
      rw [hq] at hr2 hsu2
      unfold Ap.Rls.enc
      rw [hq]
      obtain ⟨W6, hW6⟩ : ∃ W6, w5.alloc (.cells #[.slice m2.items.A m2.items.n m2.items.c, .slice m2.promos.A m2.promos.n m2.promos.c, .bool q.tax.incl, .bool q.tax.byOrder, .int .i64 q.tax.round, .slice m2.tax.zones.A m2.tax.zones.n m2.tax.zones.c, .int .i64 q.ship.fee, .int .i64 q.ship.free, .int .i64 q.policy.window, .int .i64 q.policy.grace, .int .i64 q.policy.mode, .int .i64 q.policy.restock, .slice m2.policy.order.A m2.policy.order.n m2.policy.order.c, .slice m2.policy.credit.A m2.policy.credit.n m2.policy.credit.c] 33) = W6 := ⟨_, rfl⟩
      obtain ⟨gz, z0, zs, l0, hA0, hzn0, hgz, hblk6, hc1, hf1, hl0, hn0, hsz, hcop⟩ := Ru.TT.copied hr2 hsu2 hW6
      have HAZ := Lib.hid (And.intro hA0 hzn0)
      clear hA0 hzn0
      obtain ⟨b9, hb9⟩ : ∃ b9, w5.heap.size = b9 := ⟨_, rfl⟩
      rw [hb9] at hblk6 hsz hgz
      simp only [hb9] at hcop
      have HC := Lib.hid hcop
      have HB6 := Lib.hid (And.intro hblk6 (And.intro hsz (And.intro hgz (And.intro hl0 hn0))))
      have hw6 := Lib.hid hW6
      clear hcop hq hW6 hr2 hsu2 HP4 x0 x1 x2 x3 x4 x5 x6 x7 x8 x9 x10 x11 x12 x13
      go_upto_region 5 with (fail)
      try rw [hw6.out]
      try simp only [hb9]
      clear hb9 hw6
      obtain ⟨hA, hzn⟩ := HAZ.out
      clear HAZ
      have y5 : ∀ u, Qu.Blk u b9 33 #[.slice m2.items.A m2.items.n m2.items.c, .slice m2.promos.A m2.promos.n m2.promos.c, .bool q.tax.incl, .bool q.tax.byOrder, .int .i64 q.tax.round, .slice m2.tax.zones.A m2.tax.zones.n m2.tax.zones.c, .int .i64 q.ship.fee, .int .i64 q.ship.free, .int .i64 q.policy.window, .int .i64 q.policy.grace, .int .i64 q.policy.mode, .int .i64 q.policy.restock, .slice m2.policy.order.A m2.policy.order.n m2.policy.order.c, .slice m2.policy.credit.A m2.policy.credit.n m2.policy.credit.c] → u.cell? ⟨b9, 5, none⟩ = some (.slice (some ⟨gz, 0, none⟩) 3 m2.tax.zones.c) := fun u hu => by rw [← hA, ← hzn]; exact hu.cell 5
      clear hA hzn
      go_cut [] from 23 to 34 (fun wx => Hid (∃ s0 s1 s2 s3 s4 s5 gz z0 zs A0 n0 c0, Ru.TT W4 wx b9 s0 s1 s2 s3 s4 s5 gz q m2 z0 zs A0 n0 c0))
      case first =>
        have p1 : W6.drew.cell? ⟨gz, 1, none⟩ = some (.slice l0.A l0.n l0.c) := hc1
        have hne : gz ≠ b9 := by omega
        refine wp_region_held_drew (S := fun u => Qu.Blk u b9 33 #[.slice m2.items.A m2.items.n m2.items.c, .slice m2.promos.A m2.promos.n m2.promos.c, .bool q.tax.incl, .bool q.tax.byOrder, .int .i64 q.tax.round, .slice m2.tax.zones.A m2.tax.zones.n m2.tax.zones.c, .int .i64 q.ship.fee, .int .i64 q.ship.free, .int .i64 q.policy.window, .int .i64 q.policy.grace, .int .i64 q.policy.mode, .int .i64 q.policy.restock, .slice m2.policy.order.A m2.policy.order.n m2.policy.order.c, .slice m2.policy.credit.A m2.policy.credit.n m2.policy.credit.c]) (by kernel_rfl) (HB6.out.1.drew) (fun hS0 => ?_)
        refine pkT 0 23 hS0 ?_
        try simp only [Act.put, pkA, pkB, pkC]
        refine pkT 1 24 hS0 ?_
        try simp only [Act.put, pkA, pkB, pkC]
        refine pkT 2 25 hS0 ?_
        try simp only [Act.put, pkA, pkB, pkC]
        refine pkT 3 26 hS0 ?_
        try simp only [Act.put, pkA, pkB, pkC]
        refine pkT 4 27 hS0 ?_
        try simp only [Act.put, pkA, pkB, pkC]
        refine pkT 5 28 hS0 ?_
        try simp only [Act.put, pkA, pkB, pkC]
        refine pkT 6 29 hS0 ?_
        try simp only [Act.put, pkA, pkB, pkC]
        refine pkT 7 30 hS0 ?_
        try simp only [Act.put, pkA, pkB, pkC]
        refine wpAnyH_ready (rs := [8]) (by kernel_rfl) (by simp) ?_
        refine AllReadyH.cons (o := ⟨some 31, _, _, _, _, _⟩) rfl (fun K hK => ?_) AllReadyH.nil
        go_simp
        refine hK.out _ _ (hS0) (fun hS1 => ?_)
        clear hK K
        try simp only [Act.put, pkA, pkB, pkC]
        refine wpAnyH_ready (rs := [9]) (by kernel_rfl) (by simp) ?_
        refine AllReadyH.cons (o := ⟨some 32, _, _, _, _, _⟩) rfl (fun K hK => ?_) AllReadyH.nil
        refine Kd.step_join (o := ⟨some 32, _, _, _, _, _⟩) (w1 := W6.drew) (F := fun _ => False) (G := (· < W6.heap.size)) (B := b9 + 1) (n := 0) (m := l0.n) (c := l0.c) (v := .slice none 0 0) (xs := []) (ys := z0.rates) (A := l0.A) Ap.CtR.row_t rfl (.const (.slice none 0 0)) (.tmp 31) rfl rfl rfl (Own.nil _ _ _ _ _) (HB6.out.2.2.2.1.row.stay (fun _ _ => rfl)) HB6.out.2.2.2.1.fit.1 (fun h => Ap.CtR_rep.2 (Ap.CtR_rep.1 h)) (by have := HB6.out.2.2.2.2; omega) (by have := HB6.out.2.2.2.2; omega) (Nat.le_of_eq HB6.out.2.1) (fun _ h => h.elim) ?_
        intro v9 w9 hown hgrow hfr
        rw [Nat.zero_add, List.nil_append] at hown
        obtain ⟨A9, c9, rfl⟩ := hown.value
        obtain ⟨⟨u1, hu1⟩, hf9, hb99, hTT⟩ := HC.out A9 c9 w9 hown (show W6.grownBy w9 none from ⟨hgrow.os, hgrow.tape, hgrow.output, hgrow.size, hgrow.block⟩)
        have HTT := Lib.hid hTT
        clear hTT
        refine hK.out _ _ (hb99) (fun hS2 => ?_)
        clear hK K
        try simp only [Act.put, pkA, pkB, pkC]
        refine pkT 10 33 hS2 ?_
        try simp only [Act.put, pkA, pkB, pkC]
        refine pkT 11 34 hS2 ?_
        try simp only [Act.put, pkA, pkB, pkC]
        refine wpAnyH_ready (rs := [12]) (by kernel_rfl) (by simp) ?_
        refine AllReadyH.cons (o := ⟨none, _, _, _, _, _⟩) rfl (fun K hK => ?_) AllReadyH.nil
        go_simp
        refine hK.out _ _ ((Py.blk_far2 hS2 hne.symm)) (fun hS3 => ?_)
        clear hK K
        try simp only [Act.put, pkA, pkB, pkC]
        refine wpAnyH_done (by kernel_rfl) ?_ _
        go_wp2_with fail
        go_meet
        obtain ⟨s0, s1, s2, s3, s4, s5, hT⟩ := HTT.out
        exact Lib.hid ⟨s0, s1, s2, s3, s4, s5, gz, z0, zs, A9, l0.n, c9, hT⟩
      case rest =>
        obtain ⟨s0, s1, s2, s3, s4, s5, gz, z0, zs, A0, n0, c0, hT⟩ := hcut.out
        have HT := Lib.hid hT
        clear hT y5 hc1 hf1 hl0 hn0 hsz hgz hblk6 HC HB6
        apply_assumption
        exact Ru.ways w W4 _ b9 s0 s1 s2 s3 s4 s5 gz q t m2 m z0 zs A0 n0 c0 a1 a2 s ⟨HT.out, HX4.out, HSu.out.small2, HN2.out, HSz.out⟩ _ _ _ _ _ _ _ _ _ _ _ _ _ _ _ _ _ _ _ _ _ _ _ _ _ _ _ _ _ _
set_option maxRecDepth 100000 in
theorem lifted (os : Os) (started : os.Started) (H : Type) (enc : TypeId × Value → H) :
    ReturnsInHanded {} Tryz.checked os 4 .any (Rows.rulesTurnedSpec.pre6 enc Tryz.prog Tryz.f4 Rows.rulesTurnedRow.domain false) (Rows.rulesTurnedSpec.post enc Tryz.prog Tryz.f4 false true false false) := by
  refine returnsInHanded_of_change (C := Tryz.checked) own started (by kernel_rfl) Tryz.func4
    (ChangeSpec.witness6 (enc := enc) (C := Tryz.checked) false ⟨#[], #[.agg #[.slice none 0 0, .slice none 0 0, .bool false, .bool false, .int .i64 0, .slice none 0 0, .int .i64 0, .int .i64 0, .int .i64 0, .int .i64 0, .int .i64 0, .int .i64 0, .slice none 0 0, .slice none 0 0], .int .i64 0, .int .i64 0, .string ⟨#[]⟩], []⟩ 8 (by kernel_rfl) (by kernel_rfl) (by kernel_rfl) (by kernel_rfl)) ?_
  intro W base args ds gs before hval0 hW hcnd _
  have hval : ∀ (j : Nat) t v, Tryz.f4.params[j]? = some t → args[j]? = some v → Value.okWide Tryz.prog W .any base t v := hval0
  have hW' := hW
  obtain ⟨p, q, hA0, hV, rfl, hfz, hnd⟩ := hW
  have hA : DataW.TrodAll enc Tryz.prog W 0 (fun _ => true) true Tryz.f4.params.toList args.toList ds p := hA0
  rw [Tryz.params4] at hA hval
  obtain ⟨v0, vs0, d0, ds0, p0, q0, hargs, rfl, rfl, h0, r0⟩ := trodAll_cons hA
  obtain ⟨v1, vs1, d1, ds1, p1, q1, rfl, rfl, rfl, h1, r1⟩ := trodAll_cons r0
  obtain ⟨v2, vs2, d2, ds2, p2, q2, rfl, rfl, rfl, h2, r2⟩ := trodAll_cons r1
  obtain ⟨v3, vs3, d3, ds3, p3, q3, rfl, rfl, rfl, h3, r3⟩ := trodAll_cons r2
  obtain ⟨rfl, rfl, rfl⟩ := trodAll_nil r3
  obtain rfl : args = #[v0, v1, v2, v3] := by cases args; simp_all
  obtain ⟨cs0, p0, rfl, r0⟩ := Kd.open_struct Ap.reads_Rls Tryz.underlying33 (hval 0 33 v0 rfl rfl) h0; obtain ⟨l0, rfl, x0⟩ := Ap.Rls_rep.1 r0
  obtain ⟨a1, rfl, _, _, w1⟩ := open_int Tryz.underlying3 (hval 1 3 v1 rfl rfl) h1
  obtain ⟨a2, rfl, _, _, w2⟩ := open_int Tryz.underlying2 (hval 2 2 v2 rfl rfl) h2
  obtain ⟨s3, rfl, _, _, u3⟩ := Go.ChangeMaps.open_string Tryz.underlying9 (hval 3 9 v3 rfl rfl) h3
  refine (walk W p0 l0 x0 a1 w1 a2 w2 s3 u3).mono fun e W' ⟨he, hb⟩ => ?_
  subst he
  exact ⟨_, rfl, Hk.closeLaw (tb := 4) (by kernel_rfl) (by kernel_rfl) rfl rfl rfl Tryz.underlying4 hW' hb⟩
theorem over : Rows.rulesTurnedRow.holds Tryz.pinned (OpenSpec.ofChange Rows.rulesTurnedSpec) :=
  OpenClaim.holds_of_wide 4 Tryz.f4 rfl rfl rfl rfl rfl rfl rfl ⟨rfl, rfl, rfl, rfl, rfl⟩ rfl rfl rfl rfl rfl (by kernel_rfl) Tryz.func4 (by kernel_rfl)
    (of_decide_eq_true (by kernel_rfl)) (by unfold Func.isWrapper; first | (rw [if_pos (by decide +kernel)]; kernel_rfl) | (rw [if_neg (by decide +kernel)]; exact ⟨rfl, rfl⟩))
    (fun os started H enc _ => lifted os started H enc)
theorem proved : Rows.RulesTurnedSaid :=
  over
end Go.Proofs.YtfcmhgneijipgaaGreat.rulesTurned
