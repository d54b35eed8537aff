/- P13.1: any two rules; rules and a copy of them; for every two rules. No conditions. -/
import Derived.Test.YtfcmhgneijipgaaGreatPk0
import Derived.Test.YtfcmhgneijipgaaGreatPk39

set_option maxRecDepth 100000
namespace Go.Proofs.YtfcmhgneijipgaaGreat.rulesSame
open Go.ChangeShapes Go.WideShapes Go.ChangeAt Go.RowKit
open Ap (CtR Zon Txs Shp Pol Rls Prm kCtR kZon kPrm)
open Kd (Kind Row Own Cells Fit Agree Lst Sl kStr kInt kList row_str Deep High Band)
set_option maxRecDepth 100000
set_option linter.unusedVariables false
theorem own : ownKnob Tryz.prog.godebug = none := by kernel_rfl
set_option maxHeartbeats 20000000 in
theorem walk (w : World) (r : Rls) (l : Rls.Lay) (h0 : Rls.Holds w (· < w.heap.size) r l) (q : Rls) (l' : Rls.Lay) (h1 : Rls.Holds w (· < w.heap.size) q l') :
    Calls Tryz.prog 5 #[.agg #[.slice l.items.A l.items.n l.items.c, .slice l.promos.A l.promos.n l.promos.c, .bool r.tax.incl, .bool r.tax.byOrder, .int .i64 r.tax.round, .slice l.tax.zones.A l.tax.zones.n l.tax.zones.c, .int .i64 r.ship.fee, .int .i64 r.ship.free, .int .i64 r.policy.window, .int .i64 r.policy.grace, .int .i64 r.policy.mode, .int .i64 r.policy.restock, .slice l.policy.order.A l.policy.order.n l.policy.order.c, .slice l.policy.credit.A l.policy.credit.n l.policy.credit.c], .agg #[.slice l'.items.A l'.items.n l'.items.c, .slice l'.promos.A l'.promos.n l'.promos.c, .bool q.tax.incl, .bool q.tax.byOrder, .int .i64 q.tax.round, .slice l'.tax.zones.A l'.tax.zones.n l'.tax.zones.c, .int .i64 q.ship.fee, .int .i64 q.ship.free, .int .i64 q.policy.window, .int .i64 q.policy.grace, .int .i64 q.policy.mode, .int .i64 q.policy.restock, .slice l'.policy.order.A l'.policy.order.n l'.policy.order.c, .slice l'.policy.credit.A l'.policy.credit.n l'.policy.credit.c]] w fun e w' => e = .returned (.bool true) ∧ Below w.heap.size w w' := by
  obtain ⟨W1, hW1⟩ : ∃ W1, w.alloc (.cells #[.slice l.items.A l.items.n l.items.c, .slice l.promos.A l.promos.n l.promos.c, .bool r.tax.incl, .bool r.tax.byOrder, .int .i64 r.tax.round, .slice l.tax.zones.A l.tax.zones.n l.tax.zones.c, .int .i64 r.ship.fee, .int .i64 r.ship.free, .int .i64 r.policy.window, .int .i64 r.policy.grace, .int .i64 r.policy.mode, .int .i64 r.policy.restock, .slice l.policy.order.A l.policy.order.n l.policy.order.c, .slice l.policy.credit.A l.policy.credit.n l.policy.credit.c] 33) = W1 := ⟨_, rfl⟩
  obtain ⟨W2, hW2⟩ : ∃ W2, W1.alloc (.cells #[.slice l'.items.A l'.items.n l'.items.c, .slice l'.promos.A l'.promos.n l'.promos.c, .bool q.tax.incl, .bool q.tax.byOrder, .int .i64 q.tax.round, .slice l'.tax.zones.A l'.tax.zones.n l'.tax.zones.c, .int .i64 q.ship.fee, .int .i64 q.ship.free, .int .i64 q.policy.window, .int .i64 q.policy.grace, .int .i64 q.policy.mode, .int .i64 q.policy.restock, .slice l'.policy.order.A l'.policy.order.n l'.policy.order.c, .slice l'.policy.credit.A l'.policy.credit.n l'.policy.credit.c] 33) = W2 := ⟨_, rfl⟩
  have hs1 : W1.heap.size = w.heap.size + 1 := by rw [← hW1]; simp
  have hb1 : Below w.heap.size w W1 := by rw [← hW1]; exact (Below.refl _ _).alloc (Nat.le_refl _) _
  have hb2 : Below W1.heap.size W1 W2 := by rw [← hW2]; exact (Below.refl _ _).alloc (Nat.le_refl _) _
  have hb : Below w.heap.size w W2 := hb1.trans (hb2.mono hb1.size)
  have hbx : Qu.Blk W2 w.heap.size 33 #[.slice l.items.A l.items.n l.items.c, .slice l.promos.A l.promos.n l.promos.c, .bool r.tax.incl, .bool r.tax.byOrder, .int .i64 r.tax.round, .slice l.tax.zones.A l.tax.zones.n l.tax.zones.c, .int .i64 r.ship.fee, .int .i64 r.ship.free, .int .i64 r.policy.window, .int .i64 r.policy.grace, .int .i64 r.policy.mode, .int .i64 r.policy.restock, .slice l.policy.order.A l.policy.order.n l.policy.order.c, .slice l.policy.credit.A l.policy.credit.n l.policy.credit.c] := by rw [← hW2, ← hW1]; exact (Qu.Blk.new w _ _).alloc _
  have hby : Qu.Blk W2 (w.heap.size + 1) 33 #[.slice l'.items.A l'.items.n l'.items.c, .slice l'.promos.A l'.promos.n l'.promos.c, .bool q.tax.incl, .bool q.tax.byOrder, .int .i64 q.tax.round, .slice l'.tax.zones.A l'.tax.zones.n l'.tax.zones.c, .int .i64 q.ship.fee, .int .i64 q.ship.free, .int .i64 q.policy.window, .int .i64 q.policy.grace, .int .i64 q.policy.mode, .int .i64 q.policy.restock, .slice l'.policy.order.A l'.policy.order.n l'.policy.order.c, .slice l'.policy.credit.A l'.policy.credit.n l'.policy.credit.c] := by rw [← hW2, ← hs1]; exact Qu.Blk.new W1 _ _
  have HF := Lib.hid (Ru.few_any r l W2 (Ru.rules_later h0 hb))
  have HX1 : Hid (Ru.BoxR w W2 w.heap.size r l) := Lib.hid ⟨hbx, Ru.rules_later h0 hb, hb⟩
  have HY1 : Hid (Ru.BoxR w W2 (w.heap.size + 1) q l') := Lib.hid ⟨hby, Ru.rules_later h1 hb, hb⟩
  have H0 := Lib.hid (And.intro h0 h1)
  have x0 := hbx.cell 0
  have x1 := hbx.cell 1
  have x2 := hbx.cell 2
  have x3 := hbx.cell 3
  have x4 := hbx.cell 4
  have x5 := hbx.cell 5
  have x6 := hbx.cell 6
  have x7 := hbx.cell 7
  have x8 := hbx.cell 8
  have x9 := hbx.cell 9
  have x10 := hbx.cell 10
  have x11 := hbx.cell 11
  have x12 := hbx.cell 12
  have x13 := hbx.cell 13
  clear h0 h1 hb1 hb2 hb hbx hby
  go_enter Tryz.func5, Tryz.ntmps5
  go_wp2_with fail
  clear hW1 hW2 hs1
  refine HF.out.mono ?_
  rintro e w2 ⟨b, rfl, hfew, hb2⟩
  have HX2 := Lib.hid (HX1.out.later hb2)
  have HY2 := Lib.hid (HY1.out.later hb2)
  clear hb2 x0 x1 x2 x3 x4 x5 x6 x7 x8 x9 x10 x11 x12 x13
  cases b with
  | false =>
    have HA := Lib.hid (Ru.awake_any w2)
    go_wp2_with fail
    refine HA.out.mono ?_
    rintro e w9 ⟨rfl, hb9⟩
    have HB9 := Lib.hid (HX2.out.below.trans (hb9.mono HX2.out.below.size))
    clear hb9
    go_wp2
    go_ret
    exact ⟨rfl, HB9.out⟩
  | true =>
    have HS := Lib.hid ((hfew rfl).small H0.out.1)
    have HG := Lib.hid (Ru.few_any q l' w2 HY2.out.holds)
    clear hfew
    have y0 := HY2.out.blk.cell 0
    have y1 := HY2.out.blk.cell 1
    have y2 := HY2.out.blk.cell 2
    have y3 := HY2.out.blk.cell 3
    have y4 := HY2.out.blk.cell 4
    have y5 := HY2.out.blk.cell 5
    have y6 := HY2.out.blk.cell 6
    have y7 := HY2.out.blk.cell 7
    have y8 := HY2.out.blk.cell 8
    have y9 := HY2.out.blk.cell 9
    have y10 := HY2.out.blk.cell 10
    have y11 := HY2.out.blk.cell 11
    have y12 := HY2.out.blk.cell 12
    have y13 := HY2.out.blk.cell 13
    go_wp2_with fail
    refine HG.out.mono ?_
    rintro e w3 ⟨b, rfl, hfew, hb3⟩
    have HX3 := Lib.hid (HX2.out.later hb3)
    have HY3 := Lib.hid (HY2.out.later hb3)
    clear hb3 y0 y1 y2 y3 y4 y5 y6 y7 y8 y9 y10 y11 y12 y13
    cases b with
    | false =>
      have HA := Lib.hid (Ru.awake_any w3)
      go_wp2_with fail
      refine HA.out.mono ?_
      rintro e w9 ⟨rfl, hb9⟩
      have HB9 := Lib.hid (HX3.out.below.trans (hb9.mono HX3.out.below.size))
      clear hb9
      go_wp2
      go_ret
      exact ⟨rfl, HB9.out⟩
    | true =>
      have HP := Lib.hid (HX3.out.played HS.out.1)
      have x0 := HX3.out.blk.cell 0
      have x1 := HX3.out.blk.cell 1
      have x2 := HX3.out.blk.cell 2
      have x3 := HX3.out.blk.cell 3
      have x4 := HX3.out.blk.cell 4
      have x5 := HX3.out.blk.cell 5
      have x6 := HX3.out.blk.cell 6
      have x7 := HX3.out.blk.cell 7
      have x8 := HX3.out.blk.cell 8
      have x9 := HX3.out.blk.cell 9
      have x10 := HX3.out.blk.cell 10
      have x11 := HX3.out.blk.cell 11
      have x12 := HX3.out.blk.cell 12
      have x13 := HX3.out.blk.cell 13
      go_wp2_with fail
      refine HP.out.mono ?_
      rintro e w4 ⟨m, rfl, hr, hsu⟩
      have HX4 := Lib.hid (HX3.out.later (hr.below))
      have HY4 := Lib.hid (HY3.out.later (hr.below))
      have HRu := Lib.hid hr
      have HSu := Lib.hid hsu
      obtain ⟨t, ht⟩ : ∃ t, Py.rulesOf r = t := ⟨_, rfl⟩
      rw [ht] at HRu HSu
      have HTt := Lib.hid ht
      unfold Ap.Rls.enc
      rw [ht]
      obtain ⟨W5, hW5⟩ : ∃ W5, w4.alloc (.cells #[.slice m.items.A m.items.n m.items.c, .slice m.promos.A m.promos.n m.promos.c, .bool t.tax.incl, .bool t.tax.byOrder, .int .i64 t.tax.round, .slice m.tax.zones.A m.tax.zones.n m.tax.zones.c, .int .i64 t.ship.fee, .int .i64 t.ship.free, .int .i64 t.policy.window, .int .i64 t.policy.grace, .int .i64 t.policy.mode, .int .i64 t.policy.restock, .slice m.policy.order.A m.policy.order.n m.policy.order.c, .slice m.policy.credit.A m.policy.credit.n m.policy.credit.c] 33) = W5 := ⟨_, rfl⟩
      have hb5 : Below w4.heap.size w4 W5 := by rw [← hW5]; exact (Below.refl _ _).alloc (Nat.le_refl _) _
      have HX5 := Lib.hid (HX4.out.later hb5)
      have HY5 := Lib.hid (HY4.out.later hb5)
      have HZ5 : Hid (Ru.BoxR w W5 w4.heap.size t m) := Lib.hid ⟨by rw [← hW5]; exact Qu.Blk.new w4 _ _, Ru.rules_later HRu.out.holds hb5, HX5.out.below⟩
      obtain ⟨bz, hbz⟩ : ∃ bz, w4.heap.size = bz := ⟨_, rfl⟩
      clear hr hsu ht HX1 HX2 HX3 HY1 HY2 HY3 HF HG hb5 HP x0 x1 x2 x3 x4 x5 x6 x7 x8 x9 x10 x11 x12 x13
      go_upto_region 4 with (fail)
      try rw [hW5]
      simp only [hbz] at HZ5 ⊢
      clear hbz hW5
      obtain ⟨p, hp⟩ : ∃ p, Ru.eqR r q = p := ⟨_, rfl⟩
      have e2 : (p == p) = true := by cases p <;> rfl
      have HN1 := Lib.hid (Ru.same_on HX5.out.holds HY5.out.holds HS.out.2)
      have HN2 := Lib.hid (Ru.hsame_on HX5.out.holds HY5.out.holds HS.out.2)
      simp only [hp] at HN1 HN2
      have HN3 : Hid (∀ u, Below W5.heap.size W5 u → Calls Tryz.prog 10 #[.agg #[.slice l.items.A l.items.n l.items.c, .slice l.promos.A l.promos.n l.promos.c, .bool r.tax.incl, .bool r.tax.byOrder, .int .i64 r.tax.round, .slice l.tax.zones.A l.tax.zones.n l.tax.zones.c, .int .i64 r.ship.fee, .int .i64 r.ship.free, .int .i64 r.policy.window, .int .i64 r.policy.grace, .int .i64 r.policy.mode, .int .i64 r.policy.restock, .slice l.policy.order.A l.policy.order.n l.policy.order.c, .slice l.policy.credit.A l.policy.credit.n l.policy.credit.c]] u fun e w' => ∃ m2 : Rls.Lay, e = .returned (.agg #[.slice m2.items.A m2.items.n m2.items.c, .slice m2.promos.A m2.promos.n m2.promos.c, .bool t.tax.incl, .bool t.tax.byOrder, .int .i64 t.tax.round, .slice m2.tax.zones.A m2.tax.zones.n m2.tax.zones.c, .int .i64 t.ship.fee, .int .i64 t.ship.free, .int .i64 t.policy.window, .int .i64 t.policy.grace, .int .i64 t.policy.mode, .int .i64 t.policy.restock, .slice m2.policy.order.A m2.policy.order.n m2.policy.order.c, .slice m2.policy.credit.A m2.policy.credit.n m2.policy.credit.c]) ∧ Rls.Holds w' (· < w'.heap.size) t m2 ∧ Below u.heap.size u w') := Lib.hid fun u hu => ((HX5.out.later hu).played HS.out.1).mono fun e w' hh => by
        obtain ⟨m2, e1, h2, _⟩ := hh
        rw [HTt.out] at e1 h2
        exact ⟨m2, e1, h2.holds, h2.below⟩
      have HN5 := Lib.hid (Ru.same_on HX5.out.holds HX5.out.holds HS.out.2)
      simp only [Ru.eqR_refl] at HN5
      have x0 : ∀ u, Below W5.heap.size W5 u → u.cell? ⟨w.heap.size, 0, none⟩ = some (.slice l.items.A l.items.n l.items.c) := fun u hu => (HX5.out.blk.below hu).cell 0
      have x1 : ∀ u, Below W5.heap.size W5 u → u.cell? ⟨w.heap.size, 1, none⟩ = some (.slice l.promos.A l.promos.n l.promos.c) := fun u hu => (HX5.out.blk.below hu).cell 1
      have x2 : ∀ u, Below W5.heap.size W5 u → u.cell? ⟨w.heap.size, 2, none⟩ = some (.bool r.tax.incl) := fun u hu => (HX5.out.blk.below hu).cell 2
      have x3 : ∀ u, Below W5.heap.size W5 u → u.cell? ⟨w.heap.size, 3, none⟩ = some (.bool r.tax.byOrder) := fun u hu => (HX5.out.blk.below hu).cell 3
      have x4 : ∀ u, Below W5.heap.size W5 u → u.cell? ⟨w.heap.size, 4, none⟩ = some (.int .i64 r.tax.round) := fun u hu => (HX5.out.blk.below hu).cell 4
      have x5 : ∀ u, Below W5.heap.size W5 u → u.cell? ⟨w.heap.size, 5, none⟩ = some (.slice l.tax.zones.A l.tax.zones.n l.tax.zones.c) := fun u hu => (HX5.out.blk.below hu).cell 5
      have x6 : ∀ u, Below W5.heap.size W5 u → u.cell? ⟨w.heap.size, 6, none⟩ = some (.int .i64 r.ship.fee) := fun u hu => (HX5.out.blk.below hu).cell 6
      have x7 : ∀ u, Below W5.heap.size W5 u → u.cell? ⟨w.heap.size, 7, none⟩ = some (.int .i64 r.ship.free) := fun u hu => (HX5.out.blk.below hu).cell 7
      have x8 : ∀ u, Below W5.heap.size W5 u → u.cell? ⟨w.heap.size, 8, none⟩ = some (.int .i64 r.policy.window) := fun u hu => (HX5.out.blk.below hu).cell 8
      have x9 : ∀ u, Below W5.heap.size W5 u → u.cell? ⟨w.heap.size, 9, none⟩ = some (.int .i64 r.policy.grace) := fun u hu => (HX5.out.blk.below hu).cell 9
      have x10 : ∀ u, Below W5.heap.size W5 u → u.cell? ⟨w.heap.size, 10, none⟩ = some (.int .i64 r.policy.mode) := fun u hu => (HX5.out.blk.below hu).cell 10
      have x11 : ∀ u, Below W5.heap.size W5 u → u.cell? ⟨w.heap.size, 11, none⟩ = some (.int .i64 r.policy.restock) := fun u hu => (HX5.out.blk.below hu).cell 11
      have x12 : ∀ u, Below W5.heap.size W5 u → u.cell? ⟨w.heap.size, 12, none⟩ = some (.slice l.policy.order.A l.policy.order.n l.policy.order.c) := fun u hu => (HX5.out.blk.below hu).cell 12
      have x13 : ∀ u, Below W5.heap.size W5 u → u.cell? ⟨w.heap.size, 13, none⟩ = some (.slice l.policy.credit.A l.policy.credit.n l.policy.credit.c) := fun u hu => (HX5.out.blk.below hu).cell 13
      have y0 : ∀ u, Below W5.heap.size W5 u → u.cell? ⟨w.heap.size + 1, 0, none⟩ = some (.slice l'.items.A l'.items.n l'.items.c) := fun u hu => (HY5.out.blk.below hu).cell 0
      have y1 : ∀ u, Below W5.heap.size W5 u → u.cell? ⟨w.heap.size + 1, 1, none⟩ = some (.slice l'.promos.A l'.promos.n l'.promos.c) := fun u hu => (HY5.out.blk.below hu).cell 1
      have y2 : ∀ u, Below W5.heap.size W5 u → u.cell? ⟨w.heap.size + 1, 2, none⟩ = some (.bool q.tax.incl) := fun u hu => (HY5.out.blk.below hu).cell 2
      have y3 : ∀ u, Below W5.heap.size W5 u → u.cell? ⟨w.heap.size + 1, 3, none⟩ = some (.bool q.tax.byOrder) := fun u hu => (HY5.out.blk.below hu).cell 3
      have y4 : ∀ u, Below W5.heap.size W5 u → u.cell? ⟨w.heap.size + 1, 4, none⟩ = some (.int .i64 q.tax.round) := fun u hu => (HY5.out.blk.below hu).cell 4
      have y5 : ∀ u, Below W5.heap.size W5 u → u.cell? ⟨w.heap.size + 1, 5, none⟩ = some (.slice l'.tax.zones.A l'.tax.zones.n l'.tax.zones.c) := fun u hu => (HY5.out.blk.below hu).cell 5
      have y6 : ∀ u, Below W5.heap.size W5 u → u.cell? ⟨w.heap.size + 1, 6, none⟩ = some (.int .i64 q.ship.fee) := fun u hu => (HY5.out.blk.below hu).cell 6
      have y7 : ∀ u, Below W5.heap.size W5 u → u.cell? ⟨w.heap.size + 1, 7, none⟩ = some (.int .i64 q.ship.free) := fun u hu => (HY5.out.blk.below hu).cell 7
      have y8 : ∀ u, Below W5.heap.size W5 u → u.cell? ⟨w.heap.size + 1, 8, none⟩ = some (.int .i64 q.policy.window) := fun u hu => (HY5.out.blk.below hu).cell 8
      have y9 : ∀ u, Below W5.heap.size W5 u → u.cell? ⟨w.heap.size + 1, 9, none⟩ = some (.int .i64 q.policy.grace) := fun u hu => (HY5.out.blk.below hu).cell 9
      have y10 : ∀ u, Below W5.heap.size W5 u → u.cell? ⟨w.heap.size + 1, 10, none⟩ = some (.int .i64 q.policy.mode) := fun u hu => (HY5.out.blk.below hu).cell 10
      have y11 : ∀ u, Below W5.heap.size W5 u → u.cell? ⟨w.heap.size + 1, 11, none⟩ = some (.int .i64 q.policy.restock) := fun u hu => (HY5.out.blk.below hu).cell 11
      have y12 : ∀ u, Below W5.heap.size W5 u → u.cell? ⟨w.heap.size + 1, 12, none⟩ = some (.slice l'.policy.order.A l'.policy.order.n l'.policy.order.c) := fun u hu => (HY5.out.blk.below hu).cell 12
      have y13 : ∀ u, Below W5.heap.size W5 u → u.cell? ⟨w.heap.size + 1, 13, none⟩ = some (.slice l'.policy.credit.A l'.policy.credit.n l'.policy.credit.c) := fun u hu => (HY5.out.blk.below hu).cell 13
      have z0 : ∀ u, Below W5.heap.size W5 u → u.cell? ⟨bz, 0, none⟩ = some (.slice m.items.A m.items.n m.items.c) := fun u hu => (HZ5.out.blk.below hu).cell 0
      have z1 : ∀ u, Below W5.heap.size W5 u → u.cell? ⟨bz, 1, none⟩ = some (.slice m.promos.A m.promos.n m.promos.c) := fun u hu => (HZ5.out.blk.below hu).cell 1
      have z2 : ∀ u, Below W5.heap.size W5 u → u.cell? ⟨bz, 2, none⟩ = some (.bool t.tax.incl) := fun u hu => (HZ5.out.blk.below hu).cell 2
      have z3 : ∀ u, Below W5.heap.size W5 u → u.cell? ⟨bz, 3, none⟩ = some (.bool t.tax.byOrder) := fun u hu => (HZ5.out.blk.below hu).cell 3
      have z4 : ∀ u, Below W5.heap.size W5 u → u.cell? ⟨bz, 4, none⟩ = some (.int .i64 t.tax.round) := fun u hu => (HZ5.out.blk.below hu).cell 4
      have z5 : ∀ u, Below W5.heap.size W5 u → u.cell? ⟨bz, 5, none⟩ = some (.slice m.tax.zones.A m.tax.zones.n m.tax.zones.c) := fun u hu => (HZ5.out.blk.below hu).cell 5
      have z6 : ∀ u, Below W5.heap.size W5 u → u.cell? ⟨bz, 6, none⟩ = some (.int .i64 t.ship.fee) := fun u hu => (HZ5.out.blk.below hu).cell 6
      have z7 : ∀ u, Below W5.heap.size W5 u → u.cell? ⟨bz, 7, none⟩ = some (.int .i64 t.ship.free) := fun u hu => (HZ5.out.blk.below hu).cell 7
      have z8 : ∀ u, Below W5.heap.size W5 u → u.cell? ⟨bz, 8, none⟩ = some (.int .i64 t.policy.window) := fun u hu => (HZ5.out.blk.below hu).cell 8
      have z9 : ∀ u, Below W5.heap.size W5 u → u.cell? ⟨bz, 9, none⟩ = some (.int .i64 t.policy.grace) := fun u hu => (HZ5.out.blk.below hu).cell 9
      have z10 : ∀ u, Below W5.heap.size W5 u → u.cell? ⟨bz, 10, none⟩ = some (.int .i64 t.policy.mode) := fun u hu => (HZ5.out.blk.below hu).cell 10
      have z11 : ∀ u, Below W5.heap.size W5 u → u.cell? ⟨bz, 11, none⟩ = some (.int .i64 t.policy.restock) := fun u hu => (HZ5.out.blk.below hu).cell 11
      have z12 : ∀ u, Below W5.heap.size W5 u → u.cell? ⟨bz, 12, none⟩ = some (.slice m.policy.order.A m.policy.order.n m.policy.order.c) := fun u hu => (HZ5.out.blk.below hu).cell 12
      have z13 : ∀ u, Below W5.heap.size W5 u → u.cell? ⟨bz, 13, none⟩ = some (.slice m.policy.credit.A m.policy.credit.n m.policy.credit.c) := fun u hu => (HZ5.out.blk.below hu).cell 13
      clear hp
      go_wp2_with fail
      refine wp_region_held_drew (S := fun u => Below W5.heap.size W5 u) (by kernel_rfl) ((Below.refl _ _).drew) (fun hS0 => ?_)
      refine wpAnyH_ready (rs := [0]) (by kernel_rfl) (by simp) ?_
      refine AllReadyH.cons (o := ⟨some 17, _, _, _, _, _⟩) rfl (fun K hK => ?_) AllReadyH.nil
      go_simp
      refine (Ru.awake_on _ hS0).mono ?_
      rintro e wa ⟨rfl, ha⟩
      go_wp2_with fail
      refine hK.out _ _ (ha) (fun hS1 => ?_)
      clear hK K
      try simp only [Act.put, pkA, pkB, pkC]
      refine pkT 1 18 hS1 ?_
      try simp only [Act.put, pkA, pkB, pkC]
      refine pkT 2 19 hS1 ?_
      try simp only [Act.put, pkA, pkB, pkC]
      refine pkT 3 20 hS1 ?_
      try simp only [Act.put, pkA, pkB, pkC]
      refine pkT 5 22 hS1 ?_
      try simp only [Act.put, pkA, pkB, pkC]
      refine pkT 6 23 hS1 ?_
      try simp only [Act.put, pkA, pkB, pkC]
      refine wpAnyH_ready (rs := [4]) (by kernel_rfl) (by simp) ?_
      refine AllReadyH.cons (o := ⟨some 21, _, _, _, _, _⟩) rfl (fun K hK => ?_) AllReadyH.nil
      go_simp
      refine (HN1.out _ hS1).mono ?_
      rintro e wb ⟨rfl, hb⟩
      go_wp2_with fail
      refine hK.out _ _ (hb) (fun hS2 => ?_)
      clear hK K
      try simp only [Act.put, pkA, pkB, pkC]
      refine wpAnyH_ready (rs := [7]) (by kernel_rfl) (by simp) ?_
      refine AllReadyH.cons (o := ⟨some 24, _, _, _, _, _⟩) rfl (fun K hK => ?_) AllReadyH.nil
      go_simp
      refine (HN2.out _ hS2).mono ?_
      rintro e wc ⟨rfl, hc⟩
      go_wp2_with fail
      refine hK.out _ _ (hc) (fun hS3 => ?_)
      clear hK K
      try simp only [Act.put, pkA, pkB, pkC]
      refine pkT 8 25 hS3 ?_
      try simp only [Act.put, pkA, pkB, pkC]
      refine pkT 9 26 hS3 ?_
      try simp only [Act.put, pkA, pkB, pkC]
      refine pkT 10 27 hS3 ?_
      try simp only [Act.put, pkA, pkB, pkC]
      refine pkT 11 28 hS3 ?_
      try simp only [Act.put, pkA, pkB, pkC]
      refine pkT 12 29 hS3 ?_
      try simp only [Act.put, pkA, pkB, pkC]
      refine wpAnyH_ready (rs := [13]) (by kernel_rfl) (by simp) ?_
      refine AllReadyH.cons (o := ⟨some 30, _, _, _, _, _⟩) rfl (fun K hK => ?_) AllReadyH.nil
      go_simp
      refine (HN3.out _ hS3).mono ?_
      rintro e wd ⟨m2, rfl, hm2, hd⟩
      have hdd := Hk.andThen hS3 hd
      have HN4 := Lib.hid (Ru.same_on (Ru.rules_later HZ5.out.holds hdd) hm2 HSu.out.small2 _ (Below.refl _ _))
      simp only [Ru.eqR_refl] at HN4
      go_wp2_with fail
      refine hK.out _ _ (hdd) (fun hS4 => ?_)
      clear hK K
      try simp only [Act.put, pkA, pkB, pkC]
      refine wpAnyH_ready (rs := [14]) (by kernel_rfl) (by simp) ?_
      refine AllReadyH.cons (o := ⟨some 31, _, _, _, _, _⟩) rfl (fun K hK => ?_) AllReadyH.nil
      go_simp
      refine HN4.out.mono ?_
      rintro e we ⟨rfl, he⟩
      go_wp2_with fail
      refine hK.out _ _ ((Hk.andThen hS4 he)) (fun hS5 => ?_)
      clear hK K
      try simp only [Act.put, pkA, pkB, pkC]
      refine pkT 15 32 hS5 ?_
      try simp only [Act.put, pkA, pkB, pkC]
      refine pkT 16 33 hS5 ?_
      try simp only [Act.put, pkA, pkB, pkC]
      refine pkT 17 34 hS5 ?_
      try simp only [Act.put, pkA, pkB, pkC]
      refine pkT 18 35 hS5 ?_
      try simp only [Act.put, pkA, pkB, pkC]
      refine wpAnyH_ready (rs := [19]) (by kernel_rfl) (by simp) ?_
      refine AllReadyH.cons (o := ⟨some 36, _, _, _, _, _⟩) rfl (fun K hK => ?_) AllReadyH.nil
      go_simp
      refine (HN5.out _ hS5).mono ?_
      rintro e wf ⟨rfl, hf⟩
      go_wp2_with fail
      refine hK.out _ _ (hf) (fun hS6 => ?_)
      clear hK K
      try simp only [Act.put, pkA, pkB, pkC]
      refine pkT 20 37 hS6 ?_
      try simp only [Act.put, pkA, pkB, pkC]
      refine pkT 21 4 hS6 ?_
      try simp only [Act.put, pkA, pkB, pkC]
      refine wpAnyH_done (by kernel_rfl) ?_ _
      have HB9 := Lib.hid (HX5.out.below.trans (Below.mono hS6 HX5.out.below.size))
      clear x0 y0 z0 x1 y1 z1 x2 y2 z2 x3 y3 z3 x4 y4 z4 x5 y5 z5 x6 y6 z6 x7 y7 z7 x8 y8 z8 x9 y9 z9 x10 y10 z10 x11 y11 z11 x12 y12 z12 x13 y13 z13
      go_wp2
      go_ret
      exact ⟨rfl, HB9.out⟩
set_option maxRecDepth 100000 in
theorem lifted (os : Os) (started : os.Started) (H : Type) (enc : TypeId × Value → H) :
    ReturnsInHanded {} Tryz.checked os 5 .any (Rows.rulesSameSpec.pre6 enc Tryz.prog Tryz.f5 Rows.rulesSameRow.domain false) (Rows.rulesSameSpec.post enc Tryz.prog Tryz.f5 false true false false) := by
  refine returnsInHanded_of_change (C := Tryz.checked) own started (by kernel_rfl) Tryz.func5
    (ChangeSpec.witness6 (enc := enc) (C := Tryz.checked) false ⟨#[], #[.agg #[.slice none 0 0, .slice none 0 0, .bool false, .bool false, .int .i64 0, .slice none 0 0, .int .i64 0, .int .i64 0, .int .i64 0, .int .i64 0, .int .i64 0, .int .i64 0, .slice none 0 0, .slice none 0 0], .agg #[.slice none 0 0, .slice none 0 0, .bool false, .bool false, .int .i64 0, .slice none 0 0, .int .i64 0, .int .i64 0, .int .i64 0, .int .i64 0, .int .i64 0, .int .i64 0, .slice none 0 0, .slice none 0 0]], []⟩ 8 (by kernel_rfl) (by kernel_rfl) (by kernel_rfl) (by kernel_rfl)) ?_
  intro W base args ds gs before hval0 hW hcnd _
  have hval : ∀ (j : Nat) t v, Tryz.f5.params[j]? = some t → args[j]? = some v → Value.okWide Tryz.prog W .any base t v := hval0
  have hW' := hW
  obtain ⟨p, q, hA0, hV, rfl, hfz, hnd⟩ := hW
  have hA : DataW.TrodAll enc Tryz.prog W 0 (fun _ => true) true Tryz.f5.params.toList args.toList ds p := hA0
  rw [Tryz.params5] at hA hval
  obtain ⟨v0, vs0, d0, ds0, p0, q0, hargs, rfl, rfl, h0, r0⟩ := trodAll_cons hA
  obtain ⟨v1, vs1, d1, ds1, p1, q1, rfl, rfl, rfl, h1, r1⟩ := trodAll_cons r0
  obtain ⟨rfl, rfl, rfl⟩ := trodAll_nil r1
  obtain rfl : args = #[v0, v1] := by cases args; simp_all
  obtain ⟨cs0, p0, rfl, r0⟩ := Kd.open_struct Ap.reads_Rls Tryz.underlying33 (hval 0 33 v0 rfl rfl) h0; obtain ⟨l0, rfl, x0⟩ := Ap.Rls_rep.1 r0
  obtain ⟨cs1, p1, rfl, r1⟩ := Kd.open_struct Ap.reads_Rls Tryz.underlying33 (hval 1 33 v1 rfl rfl) h1; obtain ⟨l1, rfl, x1⟩ := Ap.Rls_rep.1 r1
  refine (walk W p0 l0 x0 p1 l1 x1).mono fun e W' ⟨he, hb⟩ => ?_
  subst he
  exact ⟨_, rfl, Hk.closeLaw (tb := 4) (by kernel_rfl) (by kernel_rfl) rfl rfl rfl Tryz.underlying4 hW' hb⟩
theorem over : Rows.rulesSameRow.holds Tryz.pinned (OpenSpec.ofChange Rows.rulesSameSpec) :=
  OpenClaim.holds_of_wide 5 Tryz.f5 rfl rfl rfl rfl rfl rfl rfl ⟨rfl, rfl, rfl, rfl, rfl⟩ rfl rfl rfl rfl rfl (by kernel_rfl) Tryz.func5 (by kernel_rfl)
    (of_decide_eq_true (by kernel_rfl)) (by unfold Func.isWrapper; first | (rw [if_pos (by decide +kernel)]; kernel_rfl) | (rw [if_neg (by decide +kernel)]; exact ⟨rfl, rfl⟩))
    (fun os started H enc _ => lifted os started H enc)
theorem proved : Rows.RulesSameSaid :=
  over
end Go.Proofs.YtfcmhgneijipgaaGreat.rulesSame
