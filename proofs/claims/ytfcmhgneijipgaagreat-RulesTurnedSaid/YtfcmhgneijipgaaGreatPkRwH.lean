/- RulesTurned: its fourteen ways. (made by wip/gen-turn13.py) -/
import Derived.Test.YtfcmhgneijipgaaGreatPkRwG

set_option maxRecDepth 100000
set_option linter.unusedVariables false
namespace Go.Proofs.YtfcmhgneijipgaaGreat.Ru
open Go.ChangeShapes Go.WideShapes Go.ChangeAt Go.RowKit Go.Deep
open Ap (CtR Zon Txs Shp Pol Rls Prm Prt Tir Scp kCtR kZon kPrm kPrt row_CtR row_Zon row_Prm Zon_rep CtR_rep)
open Kd (Row Own Cells Lst Sl Fit Agree eqL Band kInt row_int)
open It (Itm kItem)
set_option maxRecDepth 100000
structure Std (w W4 wc : World) (b9 s0 s1 s2 s3 s4 s5 gz : Nat) (q t : Rls) (m2 m : Rls.Lay) (z0 : Zon) (zs : List Zon) (A0 : Option Addr) (n0 c0 : Nat) (a2 : Int) (s : ByteArray) : Prop where
  tt : TT W4 wc b9 s0 s1 s2 s3 s4 s5 gz q m2 z0 zs A0 n0 c0
  box : BoxR w W4 w.heap.size t m
  small : SmallR t
  num : -9223372036854775808 ≤ a2 ∧ a2 ≤ 9223372036854775807
  size : s.size ≤ maxLen
set_option maxHeartbeats 8000000 in
theorem way_0 (w W4 wc : World) (b9 s0 s1 s2 s3 s4 s5 gz : Nat) (q t : Rls) (m2 m : Rls.Lay) (z0 : Zon) (zs : List Zon) (A0 : Option Addr) (n0 c0 : Nat) (a1 a2 : Int) (s : ByteArray) (hS : Std w W4 wc b9 s0 s1 s2 s3 s4 s5 gz q t m2 m z0 zs A0 n0 c0 a2 s) (u0 u5 u6 u7 u8 u10 u11 u12 u13 u14 u15 u16 u17 u18 u19 u20 u21 u22 u23 u24 u25 u26 u27 u28 u29 u30 u31 u32 u33 u34 : Value) (hj : Py.modN a1 14 = 0) :
    Code.wp Tryz.prog tailS (bodyPost Tryz.prog Tryz.f4 fun e w' => e = .returned (.bool true) ∧ Below w.heap.size w w') (FrS a1 a2 s w.heap.size b9 u0 u5 u6 u7 u8 u10 u11 u12 u13 u14 u15 u16 u17 u18 u19 u20 u21 u22 u23 u24 u25 u26 u27 u28 u29 u30 u31 u32 u33 u34) wc := by
  conv => arg 2; whnf
  unfold FrS
  try dsimp only
  have HT := Lib.hid hS.tt
  have HN2 := Lib.hid hS.num
  have HSz := Lib.hid hS.size
  have HBx := Lib.hid (And.intro hS.box hS.small)
  have HM := Lib.hid (fun W => Py.mod_any a1 14 W (by omega) (by omega))
  simp only [hj] at HM
  clear hj hS
  go_wp2_with fail
  refine (HM.out _).mono ?_
  rintro e w7 ⟨rfl, rfl⟩
  clear HM
  go_upto_block 0 with (fail)
  go_cut [] (fun wx => Hid (Fin W4 wx b9))
  case first =>
    obtain ⟨i, hi⟩ : ∃ i, Py.modN a2 8 = i := ⟨_, rfl⟩
    have hi8 := Py.modN_lt a2 8 (by omega)
    have HK := Lib.hid (fun W => Py.mod_any a2 8 W (by omega) (by omega))
    rw [hi] at hi8
    simp only [hi] at HK
    clear hi
    have i0 : (0 : Int) ≤ (i : Int) := by omega
    have i1 : (i : Int) < 8 := by omega
    obtain ⟨gi, hA, hn8, hne, ⟨u1, hu1⟩, hf1, hE⟩ := (HT.out.drew (W' := w7)).setPrice (W' := w7) i (by omega) a2 HN2.out
    have HE := Lib.hid hE
    clear hE
    have xf := HT.out.blk.frozen
    have y0 : ∀ u, Qu.Blk u b9 33 #[.slice m2.items.A m2.items.n m2.items.c, .slice m2.promos.A m2.promos.n m2.promos.c, .bool q.tax.incl, .bool q.tax.byOrder, .int .i64 q.tax.round, .slice m2.tax.zones.A m2.tax.zones.n m2.tax.zones.c, .int .i64 q.ship.fee, .int .i64 q.ship.free, .int .i64 q.policy.window, .int .i64 q.policy.grace, .int .i64 q.policy.mode, .int .i64 q.policy.restock, .slice m2.policy.order.A m2.policy.order.n m2.policy.order.c, .slice m2.policy.credit.A m2.policy.credit.n m2.policy.credit.c] → u.cell? ⟨b9, 0, none⟩ = some (.slice (some ⟨gi, 0, none⟩) 8 m2.items.c) := fun u hu => by rw [← hA, ← hn8]; exact hu.cell 0
    clear hA hn8 hi8
    go_wp2_with fail
    refine wp_region_held_drew (S := fun u => Qu.Blk u b9 33 #[.slice m2.items.A m2.items.n m2.items.c, .slice m2.promos.A m2.promos.n m2.promos.c, .bool q.tax.incl, .bool q.tax.byOrder, .int .i64 q.tax.round, .slice m2.tax.zones.A m2.tax.zones.n m2.tax.zones.c, .int .i64 q.ship.fee, .int .i64 q.ship.free, .int .i64 q.policy.window, .int .i64 q.policy.grace, .int .i64 q.policy.mode, .int .i64 q.policy.restock, .slice m2.policy.order.A m2.policy.order.n m2.policy.order.c, .slice m2.policy.credit.A m2.policy.credit.n m2.policy.credit.c]) (by kernel_rfl) (HT.out.blk.drew) (fun hS0 => ?_)
    refine pkT 0 42 hS0 ?_
    try simp only [Act.put, pkA, pkB, pkC]
    refine pkT 1 43 hS0 ?_
    try simp only [Act.put, pkA, pkB, pkC]
    refine pkT 2 44 hS0 ?_
    try simp only [Act.put, pkA, pkB, pkC]
    refine pkT 4 46 hS0 ?_
    try simp only [Act.put, pkA, pkB, pkC]
    refine wpAnyH_ready (rs := [3]) (by kernel_rfl) (by simp) ?_
    refine AllReadyH.cons (o := ⟨some 45, _, _, _, _, _⟩) rfl (fun K hK => ?_) AllReadyH.nil
    go_simp
    refine (HK.out _).mono ?_
    rintro e wk ⟨rfl, rfl⟩
    go_wp2_with fail
    refine hK.out _ _ (hS0) (fun hS1 => ?_)
    clear hK K
    try simp only [Act.put, pkA, pkB, pkC]
    refine pkT 5 47 hS1 ?_
    try simp only [Act.put, pkA, pkB, pkC]
    refine pkT 6 48 hS1 ?_
    try simp only [Act.put, pkA, pkB, pkC]
    refine wpAnyH_ready (rs := [7]) (by kernel_rfl) (by simp) ?_
    refine AllReadyH.cons (o := ⟨none, _, _, _, _, _⟩) rfl (fun K hK => ?_) AllReadyH.nil
    go_simp
    refine hK.out _ _ ((Py.blk_far2 hS1 hne.symm)) (fun hS2 => ?_)
    clear hK K
    try simp only [Act.put, pkA, pkB, pkC]
    refine wpAnyH_done (by kernel_rfl) ?_ _
    go_wp2_with fail
    go_meet
    exact HE
  case rest =>
    apply_assumption
    exact at_end w W4 _ t m b9 _ _ _ _ _ _ _ _ _ _ _ _ _ _ _ _ _ _ _ _ _ _ _ _ _ _ _ _ _ _ _ _ _ _ _ _ _ _ _ _ _ _ _ _ _ _ _ _ _ _ _ _ _ _ _ _ _ _ _ _ _ _ _ _ _ _ _ _ _ _ _ _ _ _ _ _ _ _ _ _ _ _ _ _ _ _ _ _ _ _ _ _ _ _ _ _ _ _ _ _ _ _ _ _ _ _ _ _ _ _ _ _ _ _ _ _ _ _ _ _ _ _ _ _ _ _ _ _ _ _ _ _ _ _ _ _ _ _ _ _ _ _ _ _ _ _ _ _ _ _ _ _ _ _ _ _ _ _ _ _ _ _ _ _ _ _ _ _ _ _ _ HBx.out.1 HBx.out.2 hcut.out
set_option maxHeartbeats 8000000 in
theorem way_1 (w W4 wc : World) (b9 s0 s1 s2 s3 s4 s5 gz : Nat) (q t : Rls) (m2 m : Rls.Lay) (z0 : Zon) (zs : List Zon) (A0 : Option Addr) (n0 c0 : Nat) (a1 a2 : Int) (s : ByteArray) (hS : Std w W4 wc b9 s0 s1 s2 s3 s4 s5 gz q t m2 m z0 zs A0 n0 c0 a2 s) (u0 u5 u6 u7 u8 u10 u11 u12 u13 u14 u15 u16 u17 u18 u19 u20 u21 u22 u23 u24 u25 u26 u27 u28 u29 u30 u31 u32 u33 u34 : Value) (hj : Py.modN a1 14 = 1) :
    Code.wp Tryz.prog tailS (bodyPost Tryz.prog Tryz.f4 fun e w' => e = .returned (.bool true) ∧ Below w.heap.size w w') (FrS a1 a2 s w.heap.size b9 u0 u5 u6 u7 u8 u10 u11 u12 u13 u14 u15 u16 u17 u18 u19 u20 u21 u22 u23 u24 u25 u26 u27 u28 u29 u30 u31 u32 u33 u34) wc := by
  conv => arg 2; whnf
  unfold FrS
  try dsimp only
  have HT := Lib.hid hS.tt
  have HN2 := Lib.hid hS.num
  have HSz := Lib.hid hS.size
  have HBx := Lib.hid (And.intro hS.box hS.small)
  have HM := Lib.hid (fun W => Py.mod_any a1 14 W (by omega) (by omega))
  simp only [hj] at HM
  clear hj hS
  go_wp2_with fail
  refine (HM.out _).mono ?_
  rintro e w7 ⟨rfl, rfl⟩
  clear HM
  go_upto_block 0 with (fail)
  go_cut [] (fun wx => Hid (Fin W4 wx b9))
  case first =>
    have HRp : Hid (Ap.kPrm.rep w7 (fun b => s1 ≤ b ∧ b < s2 ∧ (Value.slice m2.promos.A m2.promos.n m2.promos.c).ownBlock ≠ some b) (lateP s) [.string s, .int .i64 1, .int .i64 0, .string ⟨#[]⟩, .string ⟨#[]⟩, .bool false, .slice none 0 0, .slice none 0 0, .int .i64 0, .int .i64 5, .int .i64 0, .int .i64 0, .int .i64 0, .slice none 0 0, .slice none 0 0]) := Lib.hid (lateP_rep HSz.out)
    have hn6 : m2.promos.n ≤ 6 := by have h1 := HT.out.promos.own.1; have h2 := HT.out.cnt.promos; omega
    have hbs : s1 ≤ w7.heap.size := by have h1 := HT.out.le; have h2 := HT.out.blk.lt; omega
    have x1 : w7.cell? ⟨b9, 1, none⟩ = some (.slice m2.promos.A m2.promos.n m2.promos.c) := HT.out.blk.cell 1
    have xf := HT.out.blk.frozen
    go_wp2_with ((at_builtin; refine Kd.wpList_push (W := w7) (F := fun b => s1 ≤ b ∧ b < s2 ∧ (Value.slice m2.promos.A m2.promos.n m2.promos.c).ownBlock ≠ some b) (B := s1) (n := m2.promos.n) (v := .slice m2.promos.A m2.promos.n m2.promos.c) (xs := q.promos) (y := lateP s) (cs := [.string s, .int .i64 1, .int .i64 0, .string ⟨#[]⟩, .string ⟨#[]⟩, .bool false, .slice none 0 0, .slice none 0 0, .int .i64 0, .int .i64 5, .int .i64 0, .int .i64 0, .int .i64 0, .slice none 0 0, .slice none 0 0]) Ap.prm_t rfl _ _ rfl rfl rfl rfl HT.out.promos.own HRp.out (by omega) (by omega) hbs (fun b k => ⟨by have h1 := HT.out.promos.le; omega, k.2.2⟩) ?_; intro g1 cap w9 hown hgrow hfr; have HE := Lib.hid (HT.out.pushPromo (W' := w7) hown hgrow hfr); have z1 := HE.out.2.cell 1; have zf := HE.out.2.frozen; clear hown hgrow hfr))
    go_meet
    exact Lib.hid HE.out.1
  case rest =>
    apply_assumption
    exact at_end w W4 _ t m b9 _ _ _ _ _ _ _ _ _ _ _ _ _ _ _ _ _ _ _ _ _ _ _ _ _ _ _ _ _ _ _ _ _ _ _ _ _ _ _ _ _ _ _ _ _ _ _ _ _ _ _ _ _ _ _ _ _ _ _ _ _ _ _ _ _ _ _ _ _ _ _ _ _ _ _ _ _ _ _ _ _ _ _ _ _ _ _ _ _ _ _ _ _ _ _ _ _ _ _ _ _ _ _ _ _ _ _ _ _ _ _ _ _ _ _ _ _ _ _ _ _ _ _ _ _ _ _ _ _ _ _ _ _ _ _ _ _ _ _ _ _ _ _ _ _ _ _ _ _ _ _ _ _ _ _ _ _ _ _ _ _ _ _ _ _ _ _ _ _ _ _ HBx.out.1 HBx.out.2 hcut.out
set_option maxHeartbeats 8000000 in
theorem way_2 (w W4 wc : World) (b9 s0 s1 s2 s3 s4 s5 gz : Nat) (q t : Rls) (m2 m : Rls.Lay) (z0 : Zon) (zs : List Zon) (A0 : Option Addr) (n0 c0 : Nat) (a1 a2 : Int) (s : ByteArray) (hS : Std w W4 wc b9 s0 s1 s2 s3 s4 s5 gz q t m2 m z0 zs A0 n0 c0 a2 s) (u0 u5 u6 u7 u8 u10 u11 u12 u13 u14 u15 u16 u17 u18 u19 u20 u21 u22 u23 u24 u25 u26 u27 u28 u29 u30 u31 u32 u33 u34 : Value) (hj : Py.modN a1 14 = 2) :
    Code.wp Tryz.prog tailS (bodyPost Tryz.prog Tryz.f4 fun e w' => e = .returned (.bool true) ∧ Below w.heap.size w w') (FrS a1 a2 s w.heap.size b9 u0 u5 u6 u7 u8 u10 u11 u12 u13 u14 u15 u16 u17 u18 u19 u20 u21 u22 u23 u24 u25 u26 u27 u28 u29 u30 u31 u32 u33 u34) wc := by
  conv => arg 2; whnf
  unfold FrS
  try dsimp only
  have HT := Lib.hid hS.tt
  have HN2 := Lib.hid hS.num
  have HSz := Lib.hid hS.size
  have HBx := Lib.hid (And.intro hS.box hS.small)
  have HM := Lib.hid (fun W => Py.mod_any a1 14 W (by omega) (by omega))
  simp only [hj] at HM
  clear hj hS
  go_wp2_with fail
  refine (HM.out _).mono ?_
  rintro e w7 ⟨rfl, rfl⟩
  clear HM
  go_upto_block 0 with (fail)
  go_cut [] (fun wx => Hid (Fin W4 wx b9))
  case first =>
    have HE := Lib.hid (HT.out.setRound (W' := w7) a2 HN2.out)
    have x4 : w7.cell? ⟨b9, 4, none⟩ = some (.int .i64 q.tax.round) := HT.out.blk.cell 4
    have xf := HT.out.blk.frozen
    go_wp2_with fail
    go_meet
    exact HE
  case rest =>
    apply_assumption
    exact at_end w W4 _ t m b9 _ _ _ _ _ _ _ _ _ _ _ _ _ _ _ _ _ _ _ _ _ _ _ _ _ _ _ _ _ _ _ _ _ _ _ _ _ _ _ _ _ _ _ _ _ _ _ _ _ _ _ _ _ _ _ _ _ _ _ _ _ _ _ _ _ _ _ _ _ _ _ _ _ _ _ _ _ _ _ _ _ _ _ _ _ _ _ _ _ _ _ _ _ _ _ _ _ _ _ _ _ _ _ _ _ _ _ _ _ _ _ _ _ _ _ _ _ _ _ _ _ _ _ _ _ _ _ _ _ _ _ _ _ _ _ _ _ _ _ _ _ _ _ _ _ _ _ _ _ _ _ _ _ _ _ _ _ _ _ _ _ _ _ _ _ _ _ _ _ _ _ HBx.out.1 HBx.out.2 hcut.out
set_option maxHeartbeats 8000000 in
theorem way_3 (w W4 wc : World) (b9 s0 s1 s2 s3 s4 s5 gz : Nat) (q t : Rls) (m2 m : Rls.Lay) (z0 : Zon) (zs : List Zon) (A0 : Option Addr) (n0 c0 : Nat) (a1 a2 : Int) (s : ByteArray) (hS : Std w W4 wc b9 s0 s1 s2 s3 s4 s5 gz q t m2 m z0 zs A0 n0 c0 a2 s) (u0 u5 u6 u7 u8 u10 u11 u12 u13 u14 u15 u16 u17 u18 u19 u20 u21 u22 u23 u24 u25 u26 u27 u28 u29 u30 u31 u32 u33 u34 : Value) (hj : Py.modN a1 14 = 3) :
    Code.wp Tryz.prog tailS (bodyPost Tryz.prog Tryz.f4 fun e w' => e = .returned (.bool true) ∧ Below w.heap.size w w') (FrS a1 a2 s w.heap.size b9 u0 u5 u6 u7 u8 u10 u11 u12 u13 u14 u15 u16 u17 u18 u19 u20 u21 u22 u23 u24 u25 u26 u27 u28 u29 u30 u31 u32 u33 u34) wc := by
  conv => arg 2; whnf
  unfold FrS
  try dsimp only
  have HT := Lib.hid hS.tt
  have HN2 := Lib.hid hS.num
  have HSz := Lib.hid hS.size
  have HBx := Lib.hid (And.intro hS.box hS.small)
  have HM := Lib.hid (fun W => Py.mod_any a1 14 W (by omega) (by omega))
  simp only [hj] at HM
  clear hj hS
  go_wp2_with fail
  refine (HM.out _).mono ?_
  rintro e w7 ⟨rfl, rfl⟩
  clear HM
  go_upto_block 0 with (fail)
  go_cut [] (fun wx => Hid (Fin W4 wx b9))
  case first =>
    obtain ⟨i, hi⟩ : ∃ i, Py.modN a2 3 = i := ⟨_, rfl⟩
    have hi8 := Py.modN_lt a2 3 (by omega)
    have HK := Lib.hid (fun W => Py.mod_any a2 3 W (by omega) (by omega))
    rw [hi] at hi8
    simp only [hi] at HK
    clear hi
    have i0 : (0 : Int) ≤ (i : Int) := by omega
    have i1 : (i : Int) < 3 := by omega
    obtain ⟨hne, ⟨u1, hu1⟩, hf1, hE⟩ := (HT.out.drew (W' := w7)).setName (W' := w7) i (by omega) s HSz.out
    simp only [Nat.add_zero] at hu1 hf1 hE
    have HE := Lib.hid hE
    clear hE
    have xf := HT.out.blk.frozen
    have y5 : ∀ u, Qu.Blk u b9 33 #[.slice m2.items.A m2.items.n m2.items.c, .slice m2.promos.A m2.promos.n m2.promos.c, .bool q.tax.incl, .bool q.tax.byOrder, .int .i64 q.tax.round, .slice m2.tax.zones.A m2.tax.zones.n m2.tax.zones.c, .int .i64 q.ship.fee, .int .i64 q.ship.free, .int .i64 q.policy.window, .int .i64 q.policy.grace, .int .i64 q.policy.mode, .int .i64 q.policy.restock, .slice m2.policy.order.A m2.policy.order.n m2.policy.order.c, .slice m2.policy.credit.A m2.policy.credit.n m2.policy.credit.c] → u.cell? ⟨b9, 5, none⟩ = some (.slice (some ⟨gz, 0, none⟩) 3 m2.tax.zones.c) := fun u hu => by rw [← HT.out.za, ← HT.out.zn]; exact hu.cell 5
    clear hi8
    go_wp2_with fail
    refine wp_region_held_drew (S := fun u => Qu.Blk u b9 33 #[.slice m2.items.A m2.items.n m2.items.c, .slice m2.promos.A m2.promos.n m2.promos.c, .bool q.tax.incl, .bool q.tax.byOrder, .int .i64 q.tax.round, .slice m2.tax.zones.A m2.tax.zones.n m2.tax.zones.c, .int .i64 q.ship.fee, .int .i64 q.ship.free, .int .i64 q.policy.window, .int .i64 q.policy.grace, .int .i64 q.policy.mode, .int .i64 q.policy.restock, .slice m2.policy.order.A m2.policy.order.n m2.policy.order.c, .slice m2.policy.credit.A m2.policy.credit.n m2.policy.credit.c]) (by kernel_rfl) (HT.out.blk.drew) (fun hS0 => ?_)
    refine pkT 0 65 hS0 ?_
    try simp only [Act.put, pkA, pkB, pkC]
    refine pkT 1 66 hS0 ?_
    try simp only [Act.put, pkA, pkB, pkC]
    refine pkT 2 67 hS0 ?_
    try simp only [Act.put, pkA, pkB, pkC]
    refine pkT 3 68 hS0 ?_
    try simp only [Act.put, pkA, pkB, pkC]
    refine pkT 5 70 hS0 ?_
    try simp only [Act.put, pkA, pkB, pkC]
    refine wpAnyH_ready (rs := [4]) (by kernel_rfl) (by simp) ?_
    refine AllReadyH.cons (o := ⟨some 69, _, _, _, _, _⟩) rfl (fun K hK => ?_) AllReadyH.nil
    go_simp
    refine (HK.out _).mono ?_
    rintro e wk ⟨rfl, rfl⟩
    go_wp2_with fail
    refine hK.out _ _ (hS0) (fun hS1 => ?_)
    clear hK K
    try simp only [Act.put, pkA, pkB, pkC]
    refine pkT 6 71 hS1 ?_
    try simp only [Act.put, pkA, pkB, pkC]
    refine pkT 7 72 hS1 ?_
    try simp only [Act.put, pkA, pkB, pkC]
    refine wpAnyH_ready (rs := [8]) (by kernel_rfl) (by simp) ?_
    refine AllReadyH.cons (o := ⟨none, _, _, _, _, _⟩) rfl (fun K hK => ?_) AllReadyH.nil
    go_simp
    refine hK.out _ _ ((Py.blk_far2 hS1 hne.symm)) (fun hS2 => ?_)
    clear hK K
    try simp only [Act.put, pkA, pkB, pkC]
    refine wpAnyH_done (by kernel_rfl) ?_ _
    go_wp2_with fail
    go_meet
    exact HE
  case rest =>
    apply_assumption
    exact at_end w W4 _ t m b9 _ _ _ _ _ _ _ _ _ _ _ _ _ _ _ _ _ _ _ _ _ _ _ _ _ _ _ _ _ _ _ _ _ _ _ _ _ _ _ _ _ _ _ _ _ _ _ _ _ _ _ _ _ _ _ _ _ _ _ _ _ _ _ _ _ _ _ _ _ _ _ _ _ _ _ _ _ _ _ _ _ _ _ _ _ _ _ _ _ _ _ _ _ _ _ _ _ _ _ _ _ _ _ _ _ _ _ _ _ _ _ _ _ _ _ _ _ _ _ _ _ _ _ _ _ _ _ _ _ _ _ _ _ _ _ _ _ _ _ _ _ _ _ _ _ _ _ _ _ _ _ _ _ _ _ _ _ _ _ _ _ _ _ _ _ _ _ _ _ _ _ HBx.out.1 HBx.out.2 hcut.out
set_option maxHeartbeats 8000000 in
theorem way_4 (w W4 wc : World) (b9 s0 s1 s2 s3 s4 s5 gz : Nat) (q t : Rls) (m2 m : Rls.Lay) (z0 : Zon) (zs : List Zon) (A0 : Option Addr) (n0 c0 : Nat) (a1 a2 : Int) (s : ByteArray) (hS : Std w W4 wc b9 s0 s1 s2 s3 s4 s5 gz q t m2 m z0 zs A0 n0 c0 a2 s) (u0 u5 u6 u7 u8 u10 u11 u12 u13 u14 u15 u16 u17 u18 u19 u20 u21 u22 u23 u24 u25 u26 u27 u28 u29 u30 u31 u32 u33 u34 : Value) (hj : Py.modN a1 14 = 4) :
    Code.wp Tryz.prog tailS (bodyPost Tryz.prog Tryz.f4 fun e w' => e = .returned (.bool true) ∧ Below w.heap.size w w') (FrS a1 a2 s w.heap.size b9 u0 u5 u6 u7 u8 u10 u11 u12 u13 u14 u15 u16 u17 u18 u19 u20 u21 u22 u23 u24 u25 u26 u27 u28 u29 u30 u31 u32 u33 u34) wc := by
  conv => arg 2; whnf
  unfold FrS
  try dsimp only
  have HT := Lib.hid hS.tt
  have HN2 := Lib.hid hS.num
  have HSz := Lib.hid hS.size
  have HBx := Lib.hid (And.intro hS.box hS.small)
  have HM := Lib.hid (fun W => Py.mod_any a1 14 W (by omega) (by omega))
  simp only [hj] at HM
  clear hj hS
  go_wp2_with fail
  refine (HM.out _).mono ?_
  rintro e w7 ⟨rfl, rfl⟩
  clear HM
  go_upto_block 0 with (fail)
  go_cut [] (fun wx => Hid (Fin W4 wx b9))
  case first =>
    obtain ⟨i, hi⟩ : ∃ i, Py.modN a2 3 = i := ⟨_, rfl⟩
    have hi8 := Py.modN_lt a2 3 (by omega)
    have HK := Lib.hid (fun W => Py.mod_any a2 3 W (by omega) (by omega))
    rw [hi] at hi8
    simp only [hi] at HK
    clear hi
    have i0 : (0 : Int) ≤ (i : Int) := by omega
    have i1 : (i : Int) < 3 := by omega
    obtain ⟨hne, ⟨u1, hu1⟩, hf1, hE⟩ := (HT.out.drew (W' := w7)).setRest (W' := w7) i (by omega) a2 HN2.out
    have HE := Lib.hid hE
    clear hE
    have xf := HT.out.blk.frozen
    have y5 : ∀ u, Qu.Blk u b9 33 #[.slice m2.items.A m2.items.n m2.items.c, .slice m2.promos.A m2.promos.n m2.promos.c, .bool q.tax.incl, .bool q.tax.byOrder, .int .i64 q.tax.round, .slice m2.tax.zones.A m2.tax.zones.n m2.tax.zones.c, .int .i64 q.ship.fee, .int .i64 q.ship.free, .int .i64 q.policy.window, .int .i64 q.policy.grace, .int .i64 q.policy.mode, .int .i64 q.policy.restock, .slice m2.policy.order.A m2.policy.order.n m2.policy.order.c, .slice m2.policy.credit.A m2.policy.credit.n m2.policy.credit.c] → u.cell? ⟨b9, 5, none⟩ = some (.slice (some ⟨gz, 0, none⟩) 3 m2.tax.zones.c) := fun u hu => by rw [← HT.out.za, ← HT.out.zn]; exact hu.cell 5
    clear hi8
    go_wp2_with fail
    refine wp_region_held_drew (S := fun u => Qu.Blk u b9 33 #[.slice m2.items.A m2.items.n m2.items.c, .slice m2.promos.A m2.promos.n m2.promos.c, .bool q.tax.incl, .bool q.tax.byOrder, .int .i64 q.tax.round, .slice m2.tax.zones.A m2.tax.zones.n m2.tax.zones.c, .int .i64 q.ship.fee, .int .i64 q.ship.free, .int .i64 q.policy.window, .int .i64 q.policy.grace, .int .i64 q.policy.mode, .int .i64 q.policy.restock, .slice m2.policy.order.A m2.policy.order.n m2.policy.order.c, .slice m2.policy.credit.A m2.policy.credit.n m2.policy.credit.c]) (by kernel_rfl) (HT.out.blk.drew) (fun hS0 => ?_)
    refine pkT 0 75 hS0 ?_
    try simp only [Act.put, pkA, pkB, pkC]
    refine pkT 1 76 hS0 ?_
    try simp only [Act.put, pkA, pkB, pkC]
    refine pkT 2 77 hS0 ?_
    try simp only [Act.put, pkA, pkB, pkC]
    refine pkT 3 78 hS0 ?_
    try simp only [Act.put, pkA, pkB, pkC]
    refine pkT 5 80 hS0 ?_
    try simp only [Act.put, pkA, pkB, pkC]
    refine wpAnyH_ready (rs := [4]) (by kernel_rfl) (by simp) ?_
    refine AllReadyH.cons (o := ⟨some 79, _, _, _, _, _⟩) rfl (fun K hK => ?_) AllReadyH.nil
    go_simp
    refine (HK.out _).mono ?_
    rintro e wk ⟨rfl, rfl⟩
    go_wp2_with fail
    refine hK.out _ _ (hS0) (fun hS1 => ?_)
    clear hK K
    try simp only [Act.put, pkA, pkB, pkC]
    refine pkT 6 81 hS1 ?_
    try simp only [Act.put, pkA, pkB, pkC]
    refine pkT 7 82 hS1 ?_
    try simp only [Act.put, pkA, pkB, pkC]
    refine wpAnyH_ready (rs := [8]) (by kernel_rfl) (by simp) ?_
    refine AllReadyH.cons (o := ⟨none, _, _, _, _, _⟩) rfl (fun K hK => ?_) AllReadyH.nil
    go_simp
    refine hK.out _ _ ((Py.blk_far2 hS1 hne.symm)) (fun hS2 => ?_)
    clear hK K
    try simp only [Act.put, pkA, pkB, pkC]
    refine wpAnyH_done (by kernel_rfl) ?_ _
    go_wp2_with fail
    go_meet
    exact HE
  case rest =>
    apply_assumption
    exact at_end w W4 _ t m b9 _ _ _ _ _ _ _ _ _ _ _ _ _ _ _ _ _ _ _ _ _ _ _ _ _ _ _ _ _ _ _ _ _ _ _ _ _ _ _ _ _ _ _ _ _ _ _ _ _ _ _ _ _ _ _ _ _ _ _ _ _ _ _ _ _ _ _ _ _ _ _ _ _ _ _ _ _ _ _ _ _ _ _ _ _ _ _ _ _ _ _ _ _ _ _ _ _ _ _ _ _ _ _ _ _ _ _ _ _ _ _ _ _ _ _ _ _ _ _ _ _ _ _ _ _ _ _ _ _ _ _ _ _ _ _ _ _ _ _ _ _ _ _ _ _ _ _ _ _ _ _ _ _ _ _ _ _ _ _ _ _ _ _ _ _ _ _ _ _ _ _ HBx.out.1 HBx.out.2 hcut.out
set_option maxHeartbeats 8000000 in
theorem way_5 (w W4 wc : World) (b9 s0 s1 s2 s3 s4 s5 gz : Nat) (q t : Rls) (m2 m : Rls.Lay) (z0 : Zon) (zs : List Zon) (A0 : Option Addr) (n0 c0 : Nat) (a1 a2 : Int) (s : ByteArray) (hS : Std w W4 wc b9 s0 s1 s2 s3 s4 s5 gz q t m2 m z0 zs A0 n0 c0 a2 s) (u0 u5 u6 u7 u8 u10 u11 u12 u13 u14 u15 u16 u17 u18 u19 u20 u21 u22 u23 u24 u25 u26 u27 u28 u29 u30 u31 u32 u33 u34 : Value) (hj : Py.modN a1 14 = 5) :
    Code.wp Tryz.prog tailS (bodyPost Tryz.prog Tryz.f4 fun e w' => e = .returned (.bool true) ∧ Below w.heap.size w w') (FrS a1 a2 s w.heap.size b9 u0 u5 u6 u7 u8 u10 u11 u12 u13 u14 u15 u16 u17 u18 u19 u20 u21 u22 u23 u24 u25 u26 u27 u28 u29 u30 u31 u32 u33 u34) wc := by
  conv => arg 2; whnf
  unfold FrS
  try dsimp only
  have HT := Lib.hid hS.tt
  have HN2 := Lib.hid hS.num
  have HSz := Lib.hid hS.size
  have HBx := Lib.hid (And.intro hS.box hS.small)
  have HM := Lib.hid (fun W => Py.mod_any a1 14 W (by omega) (by omega))
  simp only [hj] at HM
  clear hj hS
  go_wp2_with fail
  refine (HM.out _).mono ?_
  rintro e w7 ⟨rfl, rfl⟩
  clear HM
  go_upto_block 0 with (fail)
  go_cut [] (fun wx => Hid (Fin W4 wx b9))
  case first =>
    have HRp : Hid (∀ W, Ap.kCtR.rep W (fun _ => False) ⟨s, a2⟩ [.string s, .int .i64 a2]) := Lib.hid fun W => Ap.CtR_rep.2 ⟨rfl, HSz.out, HN2.out⟩
    have hn6 : n0 ≤ 3 := by have h1 := HT.out.rates.1; have h2 := HT.out.cnt.rates z0 (by rw [HT.out.hz]; exact List.mem_cons_self); omega
    have hbs : b9 + 1 ≤ w7.drew.heap.size := HT.out.blk.lt
    have hne : gz ≠ b9 := by have h1 := HT.out.zlt; have h2 := HT.out.le; omega
    have hz1 : w7.drew.cell? ⟨gz, 1, none⟩ = some (.slice A0 n0 c0) := by
      obtain ⟨tl, hr, _⟩ := HT.out.zrow
      exact (hr.cellAt 1 (by rw [HT.out.zn]; decide)).trans rfl
    have hz1a : ∀ ob : Obj, (w7.drew.alloc ob).cell? ⟨gz, 1, none⟩ = some (.slice A0 n0 c0) := fun ob => (((Below.refl _ _).alloc (Nat.le_refl _) ob : Below w7.drew.heap.size w7.drew (w7.drew.alloc ob)).cell (p := ⟨gz, 1, none⟩) (by have h1 := HT.out.zlt; have h2 := HT.out.le; have h3 := HT.out.blk.lt; show gz < w7.heap.size; omega)).trans hz1
    have hz1b : ∀ ob : Obj, (w7.alloc ob).cell? ⟨gz, 1, none⟩ = some (.slice A0 n0 c0) := fun ob => hz1a ob
    have xf := HT.out.blk.frozen
    have y5 : ∀ u, Qu.Blk u b9 33 #[.slice m2.items.A m2.items.n m2.items.c, .slice m2.promos.A m2.promos.n m2.promos.c, .bool q.tax.incl, .bool q.tax.byOrder, .int .i64 q.tax.round, .slice m2.tax.zones.A m2.tax.zones.n m2.tax.zones.c, .int .i64 q.ship.fee, .int .i64 q.ship.free, .int .i64 q.policy.window, .int .i64 q.policy.grace, .int .i64 q.policy.mode, .int .i64 q.policy.restock, .slice m2.policy.order.A m2.policy.order.n m2.policy.order.c, .slice m2.policy.credit.A m2.policy.credit.n m2.policy.credit.c] → u.cell? ⟨b9, 5, none⟩ = some (.slice (some ⟨gz, 0, none⟩) 3 m2.tax.zones.c) := fun u hu => by rw [← HT.out.za, ← HT.out.zn]; exact hu.cell 5
    go_wp2_with fail
    refine wp_region_held_drew (S := fun u => Qu.Blk u b9 33 #[.slice m2.items.A m2.items.n m2.items.c, .slice m2.promos.A m2.promos.n m2.promos.c, .bool q.tax.incl, .bool q.tax.byOrder, .int .i64 q.tax.round, .slice m2.tax.zones.A m2.tax.zones.n m2.tax.zones.c, .int .i64 q.ship.fee, .int .i64 q.ship.free, .int .i64 q.policy.window, .int .i64 q.policy.grace, .int .i64 q.policy.mode, .int .i64 q.policy.restock, .slice m2.policy.order.A m2.policy.order.n m2.policy.order.c, .slice m2.policy.credit.A m2.policy.credit.n m2.policy.credit.c]) (by kernel_rfl) (HT.out.blk.drew) (fun hS0 => ?_)
    refine pkT 0 85 hS0 ?_
    try simp only [Act.put, pkA, pkB, pkC]
    refine pkT 1 86 hS0 ?_
    try simp only [Act.put, pkA, pkB, pkC]
    refine pkT 2 87 hS0 ?_
    try simp only [Act.put, pkA, pkB, pkC]
    refine pkT 3 88 hS0 ?_
    try simp only [Act.put, pkA, pkB, pkC]
    refine pkT 4 89 hS0 ?_
    try simp only [Act.put, pkA, pkB, pkC]
    refine pkT 5 90 hS0 ?_
    try simp only [Act.put, pkA, pkB, pkC]
    refine pkT 6 91 hS0 ?_
    try simp only [Act.put, pkA, pkB, pkC]
    refine pkT 7 92 hS0 ?_
    try simp only [Act.put, pkA, pkB, pkC]
    refine pkT 9 94 hS0 ?_
    try simp only [Act.put, pkA, pkB, pkC]
    refine pkT 10 95 hS0 ?_
    try simp only [Act.put, pkA, pkB, pkC]
    refine pkT 11 96 hS0 ?_
    try simp only [Act.put, pkA, pkB, pkC]
    refine wpAnyH_ready (rs := [8, 12]) (by kernel_rfl) (by simp) ?_
    refine AllReadyH.cons (o := ⟨some 93, _, _, _, _, _⟩) rfl (fun K hK => ?_) ?_
    ·
      go_simp
      refine hK.out _ _ (hS0) (fun hS1 => ?_)
      clear hK K
      try simp only [Act.put, pkA, pkB, pkC]
      refine wpAnyH_ready (rs := [12]) (by kernel_rfl) (by simp) ?_
      refine AllReadyH.cons (o := ⟨some 97, _, _, _, _, _⟩) rfl (fun K hK => ?_) AllReadyH.nil
      go_simp
      refine hK.out _ _ ((Qu.Blk.alloc hS1 _)) (fun hS2 => ?_)
      clear hK K
      try simp only [Act.put, pkA, pkB, pkC]
      refine wpAnyH_ready (rs := [13]) (by kernel_rfl) (by simp) ?_
      refine AllReadyH.cons (o := ⟨some 98, _, _, _, _, _⟩) rfl (fun K hK => ?_) AllReadyH.nil
      refine Kd.step_push (o := ⟨some 98, _, _, _, _, _⟩) (W := w7.drew) (F := fun _ => False) (B := b9 + 1) (n := n0) (v := .slice A0 n0 c0) (xs := z0.rates) (y := ⟨s, a2⟩) (cs := [.string s, .int .i64 a2]) Ap.CtR.row_t rfl (.tmp 93) (.tmp 97) rfl rfl rfl rfl (HT.out.drew (W' := w7)).rates (HRp.out _) (by omega) (by omega) hbs (fun _ h => h.elim) ?_
      intro g1 cap w9 hown hgrow hfr
      have HE := Lib.hid ((HT.out.drew (W' := w7)).pushRate (W' := w7) hown hgrow hfr)
      obtain ⟨u1, hu1⟩ := HE.out.2.2.1
      have hf9 := HE.out.2.2.2
      clear hown hgrow hfr
      refine hK.out _ _ (HE.out.2.1) (fun hS3 => ?_)
      clear hK K
      try simp only [Act.put, pkA, pkB, pkC]
      refine pkT 14 99 hS3 ?_
      try simp only [Act.put, pkA, pkB, pkC]
      refine pkT 15 100 hS3 ?_
      try simp only [Act.put, pkA, pkB, pkC]
      refine wpAnyH_ready (rs := [16]) (by kernel_rfl) (by simp) ?_
      refine AllReadyH.cons (o := ⟨none, _, _, _, _, _⟩) rfl (fun K hK => ?_) AllReadyH.nil
      go_simp
      refine hK.out _ _ ((Py.blk_far2 hS3 hne.symm)) (fun hS4 => ?_)
      clear hK K
      try simp only [Act.put, pkA, pkB, pkC]
      refine wpAnyH_done (by kernel_rfl) ?_ _
      go_wp2_with fail
      go_meet
      exact Lib.hid HE.out.1
    refine AllReadyH.cons (o := ⟨some 97, _, _, _, _, _⟩) rfl (fun K hK => ?_) AllReadyH.nil
    go_simp
    refine hK.out _ _ ((Qu.Blk.alloc hS0 _)) (fun hS1 => ?_)
    clear hK K
    try simp only [Act.put, pkA, pkB, pkC]
    refine wpAnyH_ready (rs := [8]) (by kernel_rfl) (by simp) ?_
    refine AllReadyH.cons (o := ⟨some 93, _, _, _, _, _⟩) rfl (fun K hK => ?_) AllReadyH.nil
    go_simp
    refine hK.out _ _ (hS1) (fun hS2 => ?_)
    clear hK K
    try simp only [Act.put, pkA, pkB, pkC]
    refine wpAnyH_ready (rs := [13]) (by kernel_rfl) (by simp) ?_
    refine AllReadyH.cons (o := ⟨some 98, _, _, _, _, _⟩) rfl (fun K hK => ?_) AllReadyH.nil
    refine Kd.step_push (o := ⟨some 98, _, _, _, _, _⟩) (W := w7.drew) (F := fun _ => False) (B := b9 + 1) (n := n0) (v := .slice A0 n0 c0) (xs := z0.rates) (y := ⟨s, a2⟩) (cs := [.string s, .int .i64 a2]) Ap.CtR.row_t rfl (.tmp 93) (.tmp 97) rfl rfl rfl rfl (HT.out.drew (W' := w7)).rates (HRp.out _) (by omega) (by omega) hbs (fun _ h => h.elim) ?_
    intro g1 cap w9 hown hgrow hfr
    have HE := Lib.hid ((HT.out.drew (W' := w7)).pushRate (W' := w7) hown hgrow hfr)
    obtain ⟨u1, hu1⟩ := HE.out.2.2.1
    have hf9 := HE.out.2.2.2
    clear hown hgrow hfr
    refine hK.out _ _ (HE.out.2.1) (fun hS3 => ?_)
    clear hK K
    try simp only [Act.put, pkA, pkB, pkC]
    refine pkT 14 99 hS3 ?_
    try simp only [Act.put, pkA, pkB, pkC]
    refine pkT 15 100 hS3 ?_
    try simp only [Act.put, pkA, pkB, pkC]
    refine wpAnyH_ready (rs := [16]) (by kernel_rfl) (by simp) ?_
    refine AllReadyH.cons (o := ⟨none, _, _, _, _, _⟩) rfl (fun K hK => ?_) AllReadyH.nil
    go_simp
    refine hK.out _ _ ((Py.blk_far2 hS3 hne.symm)) (fun hS4 => ?_)
    clear hK K
    try simp only [Act.put, pkA, pkB, pkC]
    refine wpAnyH_done (by kernel_rfl) ?_ _
    go_wp2_with fail
    go_meet
    exact Lib.hid HE.out.1
  case rest =>
    apply_assumption
    exact at_end w W4 _ t m b9 _ _ _ _ _ _ _ _ _ _ _ _ _ _ _ _ _ _ _ _ _ _ _ _ _ _ _ _ _ _ _ _ _ _ _ _ _ _ _ _ _ _ _ _ _ _ _ _ _ _ _ _ _ _ _ _ _ _ _ _ _ _ _ _ _ _ _ _ _ _ _ _ _ _ _ _ _ _ _ _ _ _ _ _ _ _ _ _ _ _ _ _ _ _ _ _ _ _ _ _ _ _ _ _ _ _ _ _ _ _ _ _ _ _ _ _ _ _ _ _ _ _ _ _ _ _ _ _ _ _ _ _ _ _ _ _ _ _ _ _ _ _ _ _ _ _ _ _ _ _ _ _ _ _ _ _ _ _ _ _ _ _ _ _ _ _ _ _ _ _ _ HBx.out.1 HBx.out.2 hcut.out
set_option maxHeartbeats 8000000 in
theorem way_6 (w W4 wc : World) (b9 s0 s1 s2 s3 s4 s5 gz : Nat) (q t : Rls) (m2 m : Rls.Lay) (z0 : Zon) (zs : List Zon) (A0 : Option Addr) (n0 c0 : Nat) (a1 a2 : Int) (s : ByteArray) (hS : Std w W4 wc b9 s0 s1 s2 s3 s4 s5 gz q t m2 m z0 zs A0 n0 c0 a2 s) (u0 u5 u6 u7 u8 u10 u11 u12 u13 u14 u15 u16 u17 u18 u19 u20 u21 u22 u23 u24 u25 u26 u27 u28 u29 u30 u31 u32 u33 u34 : Value) (hj : Py.modN a1 14 = 6) :
    Code.wp Tryz.prog tailS (bodyPost Tryz.prog Tryz.f4 fun e w' => e = .returned (.bool true) ∧ Below w.heap.size w w') (FrS a1 a2 s w.heap.size b9 u0 u5 u6 u7 u8 u10 u11 u12 u13 u14 u15 u16 u17 u18 u19 u20 u21 u22 u23 u24 u25 u26 u27 u28 u29 u30 u31 u32 u33 u34) wc := by
  conv => arg 2; whnf
  unfold FrS
  try dsimp only
  have HT := Lib.hid hS.tt
  have HN2 := Lib.hid hS.num
  have HSz := Lib.hid hS.size
  have HBx := Lib.hid (And.intro hS.box hS.small)
  have HM := Lib.hid (fun W => Py.mod_any a1 14 W (by omega) (by omega))
  simp only [hj] at HM
  clear hj hS
  go_wp2_with fail
  refine (HM.out _).mono ?_
  rintro e w7 ⟨rfl, rfl⟩
  clear HM
  go_upto_block 0 with (fail)
  go_cut [] (fun wx => Hid (Fin W4 wx b9))
  case first =>
    have HE := Lib.hid (HT.out.setFee (W' := w7) a2 HN2.out)
    have x6 : w7.cell? ⟨b9, 6, none⟩ = some (.int .i64 q.ship.fee) := HT.out.blk.cell 6
    have xf := HT.out.blk.frozen
    go_wp2_with fail
    go_meet
    exact HE
  case rest =>
    apply_assumption
    exact at_end w W4 _ t m b9 _ _ _ _ _ _ _ _ _ _ _ _ _ _ _ _ _ _ _ _ _ _ _ _ _ _ _ _ _ _ _ _ _ _ _ _ _ _ _ _ _ _ _ _ _ _ _ _ _ _ _ _ _ _ _ _ _ _ _ _ _ _ _ _ _ _ _ _ _ _ _ _ _ _ _ _ _ _ _ _ _ _ _ _ _ _ _ _ _ _ _ _ _ _ _ _ _ _ _ _ _ _ _ _ _ _ _ _ _ _ _ _ _ _ _ _ _ _ _ _ _ _ _ _ _ _ _ _ _ _ _ _ _ _ _ _ _ _ _ _ _ _ _ _ _ _ _ _ _ _ _ _ _ _ _ _ _ _ _ _ _ _ _ _ _ _ _ _ _ _ _ HBx.out.1 HBx.out.2 hcut.out
set_option maxHeartbeats 8000000 in
theorem way_7 (w W4 wc : World) (b9 s0 s1 s2 s3 s4 s5 gz : Nat) (q t : Rls) (m2 m : Rls.Lay) (z0 : Zon) (zs : List Zon) (A0 : Option Addr) (n0 c0 : Nat) (a1 a2 : Int) (s : ByteArray) (hS : Std w W4 wc b9 s0 s1 s2 s3 s4 s5 gz q t m2 m z0 zs A0 n0 c0 a2 s) (u0 u5 u6 u7 u8 u10 u11 u12 u13 u14 u15 u16 u17 u18 u19 u20 u21 u22 u23 u24 u25 u26 u27 u28 u29 u30 u31 u32 u33 u34 : Value) (hj : Py.modN a1 14 = 7) :
    Code.wp Tryz.prog tailS (bodyPost Tryz.prog Tryz.f4 fun e w' => e = .returned (.bool true) ∧ Below w.heap.size w w') (FrS a1 a2 s w.heap.size b9 u0 u5 u6 u7 u8 u10 u11 u12 u13 u14 u15 u16 u17 u18 u19 u20 u21 u22 u23 u24 u25 u26 u27 u28 u29 u30 u31 u32 u33 u34) wc := by
  conv => arg 2; whnf
  unfold FrS
  try dsimp only
  have HT := Lib.hid hS.tt
  have HN2 := Lib.hid hS.num
  have HSz := Lib.hid hS.size
  have HBx := Lib.hid (And.intro hS.box hS.small)
  have HM := Lib.hid (fun W => Py.mod_any a1 14 W (by omega) (by omega))
  simp only [hj] at HM
  clear hj hS
  go_wp2_with fail
  refine (HM.out _).mono ?_
  rintro e w7 ⟨rfl, rfl⟩
  clear HM
  go_upto_block 0 with (fail)
  go_cut [] (fun wx => Hid (Fin W4 wx b9))
  case first =>
    have HE := Lib.hid (HT.out.setFree (W' := w7) a2 HN2.out)
    have x7 : w7.cell? ⟨b9, 7, none⟩ = some (.int .i64 q.ship.free) := HT.out.blk.cell 7
    have xf := HT.out.blk.frozen
    go_wp2_with fail
    go_meet
    exact HE
  case rest =>
    apply_assumption
    exact at_end w W4 _ t m b9 _ _ _ _ _ _ _ _ _ _ _ _ _ _ _ _ _ _ _ _ _ _ _ _ _ _ _ _ _ _ _ _ _ _ _ _ _ _ _ _ _ _ _ _ _ _ _ _ _ _ _ _ _ _ _ _ _ _ _ _ _ _ _ _ _ _ _ _ _ _ _ _ _ _ _ _ _ _ _ _ _ _ _ _ _ _ _ _ _ _ _ _ _ _ _ _ _ _ _ _ _ _ _ _ _ _ _ _ _ _ _ _ _ _ _ _ _ _ _ _ _ _ _ _ _ _ _ _ _ _ _ _ _ _ _ _ _ _ _ _ _ _ _ _ _ _ _ _ _ _ _ _ _ _ _ _ _ _ _ _ _ _ _ _ _ _ _ _ _ _ _ HBx.out.1 HBx.out.2 hcut.out
set_option maxHeartbeats 8000000 in
theorem way_8 (w W4 wc : World) (b9 s0 s1 s2 s3 s4 s5 gz : Nat) (q t : Rls) (m2 m : Rls.Lay) (z0 : Zon) (zs : List Zon) (A0 : Option Addr) (n0 c0 : Nat) (a1 a2 : Int) (s : ByteArray) (hS : Std w W4 wc b9 s0 s1 s2 s3 s4 s5 gz q t m2 m z0 zs A0 n0 c0 a2 s) (u0 u5 u6 u7 u8 u10 u11 u12 u13 u14 u15 u16 u17 u18 u19 u20 u21 u22 u23 u24 u25 u26 u27 u28 u29 u30 u31 u32 u33 u34 : Value) (hj : Py.modN a1 14 = 8) :
    Code.wp Tryz.prog tailS (bodyPost Tryz.prog Tryz.f4 fun e w' => e = .returned (.bool true) ∧ Below w.heap.size w w') (FrS a1 a2 s w.heap.size b9 u0 u5 u6 u7 u8 u10 u11 u12 u13 u14 u15 u16 u17 u18 u19 u20 u21 u22 u23 u24 u25 u26 u27 u28 u29 u30 u31 u32 u33 u34) wc := by
  conv => arg 2; whnf
  unfold FrS
  try dsimp only
  have HT := Lib.hid hS.tt
  have HN2 := Lib.hid hS.num
  have HSz := Lib.hid hS.size
  have HBx := Lib.hid (And.intro hS.box hS.small)
  have HM := Lib.hid (fun W => Py.mod_any a1 14 W (by omega) (by omega))
  simp only [hj] at HM
  clear hj hS
  go_wp2_with fail
  refine (HM.out _).mono ?_
  rintro e w7 ⟨rfl, rfl⟩
  clear HM
  go_upto_block 0 with (fail)
  go_cut [] (fun wx => Hid (Fin W4 wx b9))
  case first =>
    have HE := Lib.hid (HT.out.setWindow (W' := w7) a2 HN2.out)
    have x8 : w7.cell? ⟨b9, 8, none⟩ = some (.int .i64 q.policy.window) := HT.out.blk.cell 8
    have xf := HT.out.blk.frozen
    go_wp2_with fail
    go_meet
    exact HE
  case rest =>
    apply_assumption
    exact at_end w W4 _ t m b9 _ _ _ _ _ _ _ _ _ _ _ _ _ _ _ _ _ _ _ _ _ _ _ _ _ _ _ _ _ _ _ _ _ _ _ _ _ _ _ _ _ _ _ _ _ _ _ _ _ _ _ _ _ _ _ _ _ _ _ _ _ _ _ _ _ _ _ _ _ _ _ _ _ _ _ _ _ _ _ _ _ _ _ _ _ _ _ _ _ _ _ _ _ _ _ _ _ _ _ _ _ _ _ _ _ _ _ _ _ _ _ _ _ _ _ _ _ _ _ _ _ _ _ _ _ _ _ _ _ _ _ _ _ _ _ _ _ _ _ _ _ _ _ _ _ _ _ _ _ _ _ _ _ _ _ _ _ _ _ _ _ _ _ _ _ _ _ _ _ _ _ HBx.out.1 HBx.out.2 hcut.out
set_option maxHeartbeats 8000000 in
theorem way_9 (w W4 wc : World) (b9 s0 s1 s2 s3 s4 s5 gz : Nat) (q t : Rls) (m2 m : Rls.Lay) (z0 : Zon) (zs : List Zon) (A0 : Option Addr) (n0 c0 : Nat) (a1 a2 : Int) (s : ByteArray) (hS : Std w W4 wc b9 s0 s1 s2 s3 s4 s5 gz q t m2 m z0 zs A0 n0 c0 a2 s) (u0 u5 u6 u7 u8 u10 u11 u12 u13 u14 u15 u16 u17 u18 u19 u20 u21 u22 u23 u24 u25 u26 u27 u28 u29 u30 u31 u32 u33 u34 : Value) (hj : Py.modN a1 14 = 9) :
    Code.wp Tryz.prog tailS (bodyPost Tryz.prog Tryz.f4 fun e w' => e = .returned (.bool true) ∧ Below w.heap.size w w') (FrS a1 a2 s w.heap.size b9 u0 u5 u6 u7 u8 u10 u11 u12 u13 u14 u15 u16 u17 u18 u19 u20 u21 u22 u23 u24 u25 u26 u27 u28 u29 u30 u31 u32 u33 u34) wc := by
  conv => arg 2; whnf
  unfold FrS
  try dsimp only
  have HT := Lib.hid hS.tt
  have HN2 := Lib.hid hS.num
  have HSz := Lib.hid hS.size
  have HBx := Lib.hid (And.intro hS.box hS.small)
  have HM := Lib.hid (fun W => Py.mod_any a1 14 W (by omega) (by omega))
  simp only [hj] at HM
  clear hj hS
  go_wp2_with fail
  refine (HM.out _).mono ?_
  rintro e w7 ⟨rfl, rfl⟩
  clear HM
  go_upto_block 0 with (fail)
  go_cut [] (fun wx => Hid (Fin W4 wx b9))
  case first =>
    obtain ⟨i, hi⟩ : ∃ i, Py.modN a2 5 = i := ⟨_, rfl⟩
    have hi8 := Py.modN_lt a2 5 (by omega)
    have HK := Lib.hid (fun W => Py.mod_any a2 5 W (by omega) (by omega))
    rw [hi] at hi8
    simp only [hi] at HK
    clear hi
    have HE := Lib.hid (HT.out.setMode (W' := w7) (i : Int) (by omega))
    clear hi8
    have x10 : w7.cell? ⟨b9, 10, none⟩ = some (.int .i64 q.policy.mode) := HT.out.blk.cell 10
    have xf := HT.out.blk.frozen
    go_wp2_with fail
    refine (HK.out _).mono ?_
    rintro e wk ⟨rfl, rfl⟩
    go_wp2_with fail
    go_meet
    exact HE
  case rest =>
    apply_assumption
    exact at_end w W4 _ t m b9 _ _ _ _ _ _ _ _ _ _ _ _ _ _ _ _ _ _ _ _ _ _ _ _ _ _ _ _ _ _ _ _ _ _ _ _ _ _ _ _ _ _ _ _ _ _ _ _ _ _ _ _ _ _ _ _ _ _ _ _ _ _ _ _ _ _ _ _ _ _ _ _ _ _ _ _ _ _ _ _ _ _ _ _ _ _ _ _ _ _ _ _ _ _ _ _ _ _ _ _ _ _ _ _ _ _ _ _ _ _ _ _ _ _ _ _ _ _ _ _ _ _ _ _ _ _ _ _ _ _ _ _ _ _ _ _ _ _ _ _ _ _ _ _ _ _ _ _ _ _ _ _ _ _ _ _ _ _ _ _ _ _ _ _ _ _ _ _ _ _ _ HBx.out.1 HBx.out.2 hcut.out
set_option maxHeartbeats 8000000 in
theorem way_10 (w W4 wc : World) (b9 s0 s1 s2 s3 s4 s5 gz : Nat) (q t : Rls) (m2 m : Rls.Lay) (z0 : Zon) (zs : List Zon) (A0 : Option Addr) (n0 c0 : Nat) (a1 a2 : Int) (s : ByteArray) (hS : Std w W4 wc b9 s0 s1 s2 s3 s4 s5 gz q t m2 m z0 zs A0 n0 c0 a2 s) (u0 u5 u6 u7 u8 u10 u11 u12 u13 u14 u15 u16 u17 u18 u19 u20 u21 u22 u23 u24 u25 u26 u27 u28 u29 u30 u31 u32 u33 u34 : Value) (hj : Py.modN a1 14 = 10) :
    Code.wp Tryz.prog tailS (bodyPost Tryz.prog Tryz.f4 fun e w' => e = .returned (.bool true) ∧ Below w.heap.size w w') (FrS a1 a2 s w.heap.size b9 u0 u5 u6 u7 u8 u10 u11 u12 u13 u14 u15 u16 u17 u18 u19 u20 u21 u22 u23 u24 u25 u26 u27 u28 u29 u30 u31 u32 u33 u34) wc := by
  conv => arg 2; whnf
  unfold FrS
  try dsimp only
  have HT := Lib.hid hS.tt
  have HN2 := Lib.hid hS.num
  have HSz := Lib.hid hS.size
  have HBx := Lib.hid (And.intro hS.box hS.small)
  have HM := Lib.hid (fun W => Py.mod_any a1 14 W (by omega) (by omega))
  simp only [hj] at HM
  clear hj hS
  go_wp2_with fail
  refine (HM.out _).mono ?_
  rintro e w7 ⟨rfl, rfl⟩
  clear HM
  go_upto_block 0 with (fail)
  go_cut [] (fun wx => Hid (Fin W4 wx b9))
  case first =>
    have HE := Lib.hid (HT.out.setRestock (W' := w7) a2 HN2.out)
    have x11 : w7.cell? ⟨b9, 11, none⟩ = some (.int .i64 q.policy.restock) := HT.out.blk.cell 11
    have xf := HT.out.blk.frozen
    go_wp2_with fail
    go_meet
    exact HE
  case rest =>
    apply_assumption
    exact at_end w W4 _ t m b9 _ _ _ _ _ _ _ _ _ _ _ _ _ _ _ _ _ _ _ _ _ _ _ _ _ _ _ _ _ _ _ _ _ _ _ _ _ _ _ _ _ _ _ _ _ _ _ _ _ _ _ _ _ _ _ _ _ _ _ _ _ _ _ _ _ _ _ _ _ _ _ _ _ _ _ _ _ _ _ _ _ _ _ _ _ _ _ _ _ _ _ _ _ _ _ _ _ _ _ _ _ _ _ _ _ _ _ _ _ _ _ _ _ _ _ _ _ _ _ _ _ _ _ _ _ _ _ _ _ _ _ _ _ _ _ _ _ _ _ _ _ _ _ _ _ _ _ _ _ _ _ _ _ _ _ _ _ _ _ _ _ _ _ _ _ _ _ _ _ _ _ HBx.out.1 HBx.out.2 hcut.out
set_option maxHeartbeats 8000000 in
theorem way_11 (w W4 wc : World) (b9 s0 s1 s2 s3 s4 s5 gz : Nat) (q t : Rls) (m2 m : Rls.Lay) (z0 : Zon) (zs : List Zon) (A0 : Option Addr) (n0 c0 : Nat) (a1 a2 : Int) (s : ByteArray) (hS : Std w W4 wc b9 s0 s1 s2 s3 s4 s5 gz q t m2 m z0 zs A0 n0 c0 a2 s) (u0 u5 u6 u7 u8 u10 u11 u12 u13 u14 u15 u16 u17 u18 u19 u20 u21 u22 u23 u24 u25 u26 u27 u28 u29 u30 u31 u32 u33 u34 : Value) (hj : Py.modN a1 14 = 11) :
    Code.wp Tryz.prog tailS (bodyPost Tryz.prog Tryz.f4 fun e w' => e = .returned (.bool true) ∧ Below w.heap.size w w') (FrS a1 a2 s w.heap.size b9 u0 u5 u6 u7 u8 u10 u11 u12 u13 u14 u15 u16 u17 u18 u19 u20 u21 u22 u23 u24 u25 u26 u27 u28 u29 u30 u31 u32 u33 u34) wc := by
  conv => arg 2; whnf
  unfold FrS
  try dsimp only
  have HT := Lib.hid hS.tt
  have HN2 := Lib.hid hS.num
  have HSz := Lib.hid hS.size
  have HBx := Lib.hid (And.intro hS.box hS.small)
  have HM := Lib.hid (fun W => Py.mod_any a1 14 W (by omega) (by omega))
  simp only [hj] at HM
  clear hj hS
  go_wp2_with fail
  refine (HM.out _).mono ?_
  rintro e w7 ⟨rfl, rfl⟩
  clear HM
  go_upto_block 0 with (fail)
  go_cut [] (fun wx => Hid (Fin W4 wx b9))
  case first =>
    have HRp : Hid (kInt.rep w7 (fun b => s3 ≤ b ∧ b < s4 ∧ (Value.slice m2.policy.order.A m2.policy.order.n m2.policy.order.c).ownBlock ≠ some b) (a2) [.int .i64 a2]) := Lib.hid (⟨rfl, HN2.out⟩)
    have hn6 : m2.policy.order.n ≤ 6 := by have h1 := HT.out.order.own.1; have h2 := HT.out.cnt.order; omega
    have hbs : s3 ≤ w7.heap.size := by have h1 := HT.out.le; have h2 := HT.out.blk.lt; omega
    have x12 : w7.cell? ⟨b9, 12, none⟩ = some (.slice m2.policy.order.A m2.policy.order.n m2.policy.order.c) := HT.out.blk.cell 12
    have xf := HT.out.blk.frozen
    go_wp2_with ((at_builtin; refine Kd.wpList_push (W := w7) (F := fun b => s3 ≤ b ∧ b < s4 ∧ (Value.slice m2.policy.order.A m2.policy.order.n m2.policy.order.c).ownBlock ≠ some b) (B := s3) (n := m2.policy.order.n) (v := .slice m2.policy.order.A m2.policy.order.n m2.policy.order.c) (xs := q.policy.order) (y := a2) (cs := [.int .i64 a2]) Ap.int_t rfl _ _ rfl rfl rfl rfl HT.out.order.own HRp.out (by omega) (by omega) hbs (fun b k => ⟨by have h1 := HT.out.order.le; omega, k.2.2⟩) ?_; intro g1 cap w9 hown hgrow hfr; have HE := Lib.hid (HT.out.pushOrder (W' := w7) hown hgrow hfr); have z1 := HE.out.2.cell 12; have zf := HE.out.2.frozen; clear hown hgrow hfr))
    go_meet
    exact Lib.hid HE.out.1
  case rest =>
    apply_assumption
    exact at_end w W4 _ t m b9 _ _ _ _ _ _ _ _ _ _ _ _ _ _ _ _ _ _ _ _ _ _ _ _ _ _ _ _ _ _ _ _ _ _ _ _ _ _ _ _ _ _ _ _ _ _ _ _ _ _ _ _ _ _ _ _ _ _ _ _ _ _ _ _ _ _ _ _ _ _ _ _ _ _ _ _ _ _ _ _ _ _ _ _ _ _ _ _ _ _ _ _ _ _ _ _ _ _ _ _ _ _ _ _ _ _ _ _ _ _ _ _ _ _ _ _ _ _ _ _ _ _ _ _ _ _ _ _ _ _ _ _ _ _ _ _ _ _ _ _ _ _ _ _ _ _ _ _ _ _ _ _ _ _ _ _ _ _ _ _ _ _ _ _ _ _ _ _ _ _ _ HBx.out.1 HBx.out.2 hcut.out
set_option maxHeartbeats 8000000 in
theorem way_12 (w W4 wc : World) (b9 s0 s1 s2 s3 s4 s5 gz : Nat) (q t : Rls) (m2 m : Rls.Lay) (z0 : Zon) (zs : List Zon) (A0 : Option Addr) (n0 c0 : Nat) (a1 a2 : Int) (s : ByteArray) (hS : Std w W4 wc b9 s0 s1 s2 s3 s4 s5 gz q t m2 m z0 zs A0 n0 c0 a2 s) (u0 u5 u6 u7 u8 u10 u11 u12 u13 u14 u15 u16 u17 u18 u19 u20 u21 u22 u23 u24 u25 u26 u27 u28 u29 u30 u31 u32 u33 u34 : Value) (hj : Py.modN a1 14 = 12) :
    Code.wp Tryz.prog tailS (bodyPost Tryz.prog Tryz.f4 fun e w' => e = .returned (.bool true) ∧ Below w.heap.size w w') (FrS a1 a2 s w.heap.size b9 u0 u5 u6 u7 u8 u10 u11 u12 u13 u14 u15 u16 u17 u18 u19 u20 u21 u22 u23 u24 u25 u26 u27 u28 u29 u30 u31 u32 u33 u34) wc := by
  conv => arg 2; whnf
  unfold FrS
  try dsimp only
  have HT := Lib.hid hS.tt
  have HN2 := Lib.hid hS.num
  have HSz := Lib.hid hS.size
  have HBx := Lib.hid (And.intro hS.box hS.small)
  have HM := Lib.hid (fun W => Py.mod_any a1 14 W (by omega) (by omega))
  simp only [hj] at HM
  clear hj hS
  go_wp2_with fail
  refine (HM.out _).mono ?_
  rintro e w7 ⟨rfl, rfl⟩
  clear HM
  go_upto_block 0 with (fail)
  go_cut [] (fun wx => Hid (Fin W4 wx b9))
  case first =>
    have HRp : Hid (kInt.rep w7 (fun b => s4 ≤ b ∧ b < s5 ∧ (Value.slice m2.policy.credit.A m2.policy.credit.n m2.policy.credit.c).ownBlock ≠ some b) (a2) [.int .i64 a2]) := Lib.hid (⟨rfl, HN2.out⟩)
    have hn6 : m2.policy.credit.n ≤ 6 := by have h1 := HT.out.credit.own.1; have h2 := HT.out.cnt.credit; omega
    have hbs : s4 ≤ w7.heap.size := by have h1 := HT.out.le; have h2 := HT.out.blk.lt; omega
    have x13 : w7.cell? ⟨b9, 13, none⟩ = some (.slice m2.policy.credit.A m2.policy.credit.n m2.policy.credit.c) := HT.out.blk.cell 13
    have xf := HT.out.blk.frozen
    go_wp2_with ((at_builtin; refine Kd.wpList_push (W := w7) (F := fun b => s4 ≤ b ∧ b < s5 ∧ (Value.slice m2.policy.credit.A m2.policy.credit.n m2.policy.credit.c).ownBlock ≠ some b) (B := s4) (n := m2.policy.credit.n) (v := .slice m2.policy.credit.A m2.policy.credit.n m2.policy.credit.c) (xs := q.policy.credit) (y := a2) (cs := [.int .i64 a2]) Ap.int_t rfl _ _ rfl rfl rfl rfl HT.out.credit.own HRp.out (by omega) (by omega) hbs (fun b k => ⟨by have h1 := HT.out.credit.le; omega, k.2.2⟩) ?_; intro g1 cap w9 hown hgrow hfr; have HE := Lib.hid (HT.out.pushCredit (W' := w7) hown hgrow hfr); have z1 := HE.out.2.cell 13; have zf := HE.out.2.frozen; clear hown hgrow hfr))
    go_meet
    exact Lib.hid HE.out.1
  case rest =>
    apply_assumption
    exact at_end w W4 _ t m b9 _ _ _ _ _ _ _ _ _ _ _ _ _ _ _ _ _ _ _ _ _ _ _ _ _ _ _ _ _ _ _ _ _ _ _ _ _ _ _ _ _ _ _ _ _ _ _ _ _ _ _ _ _ _ _ _ _ _ _ _ _ _ _ _ _ _ _ _ _ _ _ _ _ _ _ _ _ _ _ _ _ _ _ _ _ _ _ _ _ _ _ _ _ _ _ _ _ _ _ _ _ _ _ _ _ _ _ _ _ _ _ _ _ _ _ _ _ _ _ _ _ _ _ _ _ _ _ _ _ _ _ _ _ _ _ _ _ _ _ _ _ _ _ _ _ _ _ _ _ _ _ _ _ _ _ _ _ _ _ _ _ _ _ _ _ _ _ _ _ _ _ HBx.out.1 HBx.out.2 hcut.out
set_option maxHeartbeats 8000000 in
theorem way_13 (w W4 wc : World) (b9 s0 s1 s2 s3 s4 s5 gz : Nat) (q t : Rls) (m2 m : Rls.Lay) (z0 : Zon) (zs : List Zon) (A0 : Option Addr) (n0 c0 : Nat) (a1 a2 : Int) (s : ByteArray) (hS : Std w W4 wc b9 s0 s1 s2 s3 s4 s5 gz q t m2 m z0 zs A0 n0 c0 a2 s) (u0 u5 u6 u7 u8 u10 u11 u12 u13 u14 u15 u16 u17 u18 u19 u20 u21 u22 u23 u24 u25 u26 u27 u28 u29 u30 u31 u32 u33 u34 : Value) (hj : Py.modN a1 14 = 13) :
    Code.wp Tryz.prog tailS (bodyPost Tryz.prog Tryz.f4 fun e w' => e = .returned (.bool true) ∧ Below w.heap.size w w') (FrS a1 a2 s w.heap.size b9 u0 u5 u6 u7 u8 u10 u11 u12 u13 u14 u15 u16 u17 u18 u19 u20 u21 u22 u23 u24 u25 u26 u27 u28 u29 u30 u31 u32 u33 u34) wc := by
  conv => arg 2; whnf
  unfold FrS
  try dsimp only
  have HT := Lib.hid hS.tt
  have HN2 := Lib.hid hS.num
  have HSz := Lib.hid hS.size
  have HBx := Lib.hid (And.intro hS.box hS.small)
  have HM := Lib.hid (fun W => Py.mod_any a1 14 W (by omega) (by omega))
  simp only [hj] at HM
  clear hj hS
  go_wp2_with fail
  refine (HM.out _).mono ?_
  rintro e w7 ⟨rfl, rfl⟩
  clear HM
  go_upto_block 0 with (fail)
  go_cut [] (fun wx => Hid (Fin W4 wx b9))
  case first =>
    have HE := Lib.hid (HT.out.setGrace (W' := w7) a2 HN2.out)
    have x9 : w7.cell? ⟨b9, 9, none⟩ = some (.int .i64 q.policy.grace) := HT.out.blk.cell 9
    have xf := HT.out.blk.frozen
    go_wp2_with fail
    go_meet
    exact HE
  case rest =>
    apply_assumption
    exact at_end w W4 _ t m b9 _ _ _ _ _ _ _ _ _ _ _ _ _ _ _ _ _ _ _ _ _ _ _ _ _ _ _ _ _ _ _ _ _ _ _ _ _ _ _ _ _ _ _ _ _ _ _ _ _ _ _ _ _ _ _ _ _ _ _ _ _ _ _ _ _ _ _ _ _ _ _ _ _ _ _ _ _ _ _ _ _ _ _ _ _ _ _ _ _ _ _ _ _ _ _ _ _ _ _ _ _ _ _ _ _ _ _ _ _ _ _ _ _ _ _ _ _ _ _ _ _ _ _ _ _ _ _ _ _ _ _ _ _ _ _ _ _ _ _ _ _ _ _ _ _ _ _ _ _ _ _ _ _ _ _ _ _ _ _ _ _ _ _ _ _ _ _ _ _ _ _ HBx.out.1 HBx.out.2 hcut.out
theorem ways (w W4 wc : World) (b9 s0 s1 s2 s3 s4 s5 gz : Nat) (q t : Rls) (m2 m : Rls.Lay) (z0 : Zon) (zs : List Zon) (A0 : Option Addr) (n0 c0 : Nat) (a1 a2 : Int) (s : ByteArray) (hS : Std w W4 wc b9 s0 s1 s2 s3 s4 s5 gz q t m2 m z0 zs A0 n0 c0 a2 s) (u0 u5 u6 u7 u8 u10 u11 u12 u13 u14 u15 u16 u17 u18 u19 u20 u21 u22 u23 u24 u25 u26 u27 u28 u29 u30 u31 u32 u33 u34 : Value) :
    Code.wp Tryz.prog tailS (bodyPost Tryz.prog Tryz.f4 fun e w' => e = .returned (.bool true) ∧ Below w.heap.size w w') (FrS a1 a2 s w.heap.size b9 u0 u5 u6 u7 u8 u10 u11 u12 u13 u14 u15 u16 u17 u18 u19 u20 u21 u22 u23 u24 u25 u26 u27 u28 u29 u30 u31 u32 u33 u34) wc := by
  have h14 := Py.modN_lt a1 14 (by omega)
  have hc : Py.modN a1 14 = 0 ∨ Py.modN a1 14 = 1 ∨ Py.modN a1 14 = 2 ∨ Py.modN a1 14 = 3 ∨ Py.modN a1 14 = 4 ∨ Py.modN a1 14 = 5 ∨ Py.modN a1 14 = 6 ∨ Py.modN a1 14 = 7 ∨ Py.modN a1 14 = 8 ∨ Py.modN a1 14 = 9 ∨ Py.modN a1 14 = 10 ∨ Py.modN a1 14 = 11 ∨ Py.modN a1 14 = 12 ∨ Py.modN a1 14 = 13 := by omega
  rcases hc with h | h | h | h | h | h | h | h | h | h | h | h | h | h
  · exact way_0 w W4 wc b9 s0 s1 s2 s3 s4 s5 gz q t m2 m z0 zs A0 n0 c0 a1 a2 s hS u0 u5 u6 u7 u8 u10 u11 u12 u13 u14 u15 u16 u17 u18 u19 u20 u21 u22 u23 u24 u25 u26 u27 u28 u29 u30 u31 u32 u33 u34 h
  · exact way_1 w W4 wc b9 s0 s1 s2 s3 s4 s5 gz q t m2 m z0 zs A0 n0 c0 a1 a2 s hS u0 u5 u6 u7 u8 u10 u11 u12 u13 u14 u15 u16 u17 u18 u19 u20 u21 u22 u23 u24 u25 u26 u27 u28 u29 u30 u31 u32 u33 u34 h
  · exact way_2 w W4 wc b9 s0 s1 s2 s3 s4 s5 gz q t m2 m z0 zs A0 n0 c0 a1 a2 s hS u0 u5 u6 u7 u8 u10 u11 u12 u13 u14 u15 u16 u17 u18 u19 u20 u21 u22 u23 u24 u25 u26 u27 u28 u29 u30 u31 u32 u33 u34 h
  · exact way_3 w W4 wc b9 s0 s1 s2 s3 s4 s5 gz q t m2 m z0 zs A0 n0 c0 a1 a2 s hS u0 u5 u6 u7 u8 u10 u11 u12 u13 u14 u15 u16 u17 u18 u19 u20 u21 u22 u23 u24 u25 u26 u27 u28 u29 u30 u31 u32 u33 u34 h
  · exact way_4 w W4 wc b9 s0 s1 s2 s3 s4 s5 gz q t m2 m z0 zs A0 n0 c0 a1 a2 s hS u0 u5 u6 u7 u8 u10 u11 u12 u13 u14 u15 u16 u17 u18 u19 u20 u21 u22 u23 u24 u25 u26 u27 u28 u29 u30 u31 u32 u33 u34 h
  · exact way_5 w W4 wc b9 s0 s1 s2 s3 s4 s5 gz q t m2 m z0 zs A0 n0 c0 a1 a2 s hS u0 u5 u6 u7 u8 u10 u11 u12 u13 u14 u15 u16 u17 u18 u19 u20 u21 u22 u23 u24 u25 u26 u27 u28 u29 u30 u31 u32 u33 u34 h
  · exact way_6 w W4 wc b9 s0 s1 s2 s3 s4 s5 gz q t m2 m z0 zs A0 n0 c0 a1 a2 s hS u0 u5 u6 u7 u8 u10 u11 u12 u13 u14 u15 u16 u17 u18 u19 u20 u21 u22 u23 u24 u25 u26 u27 u28 u29 u30 u31 u32 u33 u34 h
  · exact way_7 w W4 wc b9 s0 s1 s2 s3 s4 s5 gz q t m2 m z0 zs A0 n0 c0 a1 a2 s hS u0 u5 u6 u7 u8 u10 u11 u12 u13 u14 u15 u16 u17 u18 u19 u20 u21 u22 u23 u24 u25 u26 u27 u28 u29 u30 u31 u32 u33 u34 h
  · exact way_8 w W4 wc b9 s0 s1 s2 s3 s4 s5 gz q t m2 m z0 zs A0 n0 c0 a1 a2 s hS u0 u5 u6 u7 u8 u10 u11 u12 u13 u14 u15 u16 u17 u18 u19 u20 u21 u22 u23 u24 u25 u26 u27 u28 u29 u30 u31 u32 u33 u34 h
  · exact way_9 w W4 wc b9 s0 s1 s2 s3 s4 s5 gz q t m2 m z0 zs A0 n0 c0 a1 a2 s hS u0 u5 u6 u7 u8 u10 u11 u12 u13 u14 u15 u16 u17 u18 u19 u20 u21 u22 u23 u24 u25 u26 u27 u28 u29 u30 u31 u32 u33 u34 h
  · exact way_10 w W4 wc b9 s0 s1 s2 s3 s4 s5 gz q t m2 m z0 zs A0 n0 c0 a1 a2 s hS u0 u5 u6 u7 u8 u10 u11 u12 u13 u14 u15 u16 u17 u18 u19 u20 u21 u22 u23 u24 u25 u26 u27 u28 u29 u30 u31 u32 u33 u34 h
  · exact way_11 w W4 wc b9 s0 s1 s2 s3 s4 s5 gz q t m2 m z0 zs A0 n0 c0 a1 a2 s hS u0 u5 u6 u7 u8 u10 u11 u12 u13 u14 u15 u16 u17 u18 u19 u20 u21 u22 u23 u24 u25 u26 u27 u28 u29 u30 u31 u32 u33 u34 h
  · exact way_12 w W4 wc b9 s0 s1 s2 s3 s4 s5 gz q t m2 m z0 zs A0 n0 c0 a1 a2 s hS u0 u5 u6 u7 u8 u10 u11 u12 u13 u14 u15 u16 u17 u18 u19 u20 u21 u22 u23 u24 u25 u26 u27 u28 u29 u30 u31 u32 u33 u34 h
  · exact way_13 w W4 wc b9 s0 s1 s2 s3 s4 s5 gz q t m2 m z0 zs A0 n0 c0 a1 a2 s hS u0 u5 u6 u7 u8 u10 u11 u12 u13 u14 u15 u16 u17 u18 u19 u20 u21 u22 u23 u24 u25 u26 u27 u28 u29 u30 u31 u32 u33 u34 h
end Go.Proofs.YtfcmhgneijipgaaGreat.Ru
