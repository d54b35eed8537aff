/- RulesTurned: the text's tails, and its end: rules in that box, whatever they are. (made by wip/gen-turn13.py) -/
import Derived.Test.YtfcmhgneijipgaaGreatPkRwF

set_option maxRecDepth 100000
set_option linter.unusedVariables false
namespace Go.Proofs.YtfcmhgneijipgaaGreat.Ru
open Go.ChangeShapes Go.WideShapes Go.ChangeAt Go.RowKit Go.Deep
open Ap (CtR Zon Txs Shp Pol Rls Prm Prt Tir Scp kCtR kZon kPrm kPrt row_CtR row_Zon row_Prm Zon_rep CtR_rep)
open Kd (Row Own Cells Lst Sl Fit Agree eqL Band kInt row_int)
open It (Itm kItem)
set_option maxRecDepth 100000
noncomputable def tailS : Code := match Tryz.f4.body with
  | some (.seq _ (.seq _ (.seq _ (.seq _ (.seq _ c))))) => c
  | _ => .skip
noncomputable def tailE : Code := match Tryz.f4.body with
  | some (.seq _ (.seq _ (.seq _ (.seq _ (.seq _ (.seq _ c)))))) => c
  | _ => .skip
abbrev FrS (a1 a2 : Int) (s : ByteArray) (g4 b9 : Nat) (u0 u5 u6 u7 u8 u10 u11 u12 u13 u14 u15 u16 u17 u18 u19 u20 u21 u22 u23 u24 u25 u26 u27 u28 u29 u30 u31 u32 u33 u34 : Value) : Act := ⟨#[u0, .int .i64 a1, .int .i64 a2, .string s, .pointer (some ⟨g4, 0, none⟩), u5, u6, u7, u8, .pointer (some ⟨b9, 0, none⟩), u10, u11, u12, u13, u14, u15, u16, u17, u18, u19, u20, u21, u22, u23, u24, u25, u26, u27, u28, u29, u30, u31, u32, u33, u34, undef, undef, undef, undef, undef, undef, undef, undef, undef, undef, undef, undef, undef, undef, undef, undef, undef, undef, undef, undef, undef, undef, undef, undef, undef, undef, undef, undef, undef, undef, undef, undef, undef, undef, undef, undef, undef, undef, undef, undef, undef, undef, undef, undef, undef, undef, undef, undef, undef, undef, undef, undef, undef, undef, undef, undef, undef, undef, undef, undef, undef, undef, undef, undef, undef, undef, undef, undef, undef, undef, undef, undef, undef, undef, undef, undef, undef, undef, undef, undef, undef, undef, undef, undef, undef, undef, undef, undef, undef, undef, undef, undef, undef, undef, undef, undef, undef, undef, undef, undef, undef, undef, undef, undef, undef, undef, undef, undef, undef, undef, undef, undef, undef, undef, undef, undef, undef, undef, undef, undef, undef, undef, undef, undef, undef, undef, undef, undef, undef, undef, undef, undef, undef, undef, undef, undef, undef, undef], []⟩
abbrev FrE (g4 b9 : Nat) (u0 u1 u2 u3 u5 u6 u7 u8 u10 u11 u12 u13 u14 u15 u16 u17 u18 u19 u20 u21 u22 u23 u24 u25 u26 u27 u28 u29 u30 u31 u32 u33 u34 u35 u36 u37 u38 u39 u40 u41 u42 u43 u44 u45 u46 u47 u48 u49 u50 u51 u52 u53 u54 u55 u56 u57 u58 u59 u60 u61 u62 u63 u64 u65 u66 u67 u68 u69 u70 u71 u72 u73 u74 u75 u76 u77 u78 u79 u80 u81 u82 u83 u84 u85 u86 u87 u88 u89 u90 u91 u92 u93 u94 u95 u96 u97 u98 u99 u100 u101 u102 u103 u104 u105 u106 u107 u108 u109 u110 u111 u112 u113 u114 u115 u116 u117 u118 u119 u120 u121 u122 u123 u124 u125 u126 u127 u128 u129 u130 u131 u132 u133 u134 u135 u136 u137 u138 u139 u140 u141 u142 u143 u144 u145 u146 u147 u148 u149 u150 u151 u152 u153 u154 u155 u156 u157 u158 u159 u160 u161 u162 u163 u164 u165 u166 u167 u168 u169 u170 u171 u172 : Value) : Act := ⟨#[u0, u1, u2, u3, .pointer (some ⟨g4, 0, none⟩), u5, u6, u7, u8, .pointer (some ⟨b9, 0, none⟩), u10, u11, u12, u13, u14, u15, u16, u17, u18, u19, u20, u21, u22, u23, u24, u25, u26, u27, u28, u29, u30, u31, u32, u33, u34, u35, u36, u37, u38, u39, u40, u41, u42, u43, u44, u45, u46, u47, u48, u49, u50, u51, u52, u53, u54, u55, u56, u57, u58, u59, u60, u61, u62, u63, u64, u65, u66, u67, u68, u69, u70, u71, u72, u73, u74, u75, u76, u77, u78, u79, u80, u81, u82, u83, u84, u85, u86, u87, u88, u89, u90, u91, u92, u93, u94, u95, u96, u97, u98, u99, u100, u101, u102, u103, u104, u105, u106, u107, u108, u109, u110, u111, u112, u113, u114, u115, u116, u117, u118, u119, u120, u121, u122, u123, u124, u125, u126, u127, u128, u129, u130, u131, u132, u133, u134, u135, u136, u137, u138, u139, u140, u141, u142, u143, u144, u145, u146, u147, u148, u149, u150, u151, u152, u153, u154, u155, u156, u157, u158, u159, u160, u161, u162, u163, u164, u165, u166, u167, u168, u169, u170, u171, u172], []⟩
set_option maxHeartbeats 8000000 in
theorem at_end (w W4 wc : World) (t : Rls) (m : Rls.Lay) (b9 : Nat) (u0 u1 u2 u3 u5 u6 u7 u8 u10 u11 u12 u13 u14 u15 u16 u17 u18 u19 u20 u21 u22 u23 u24 u25 u26 u27 u28 u29 u30 u31 u32 u33 u34 u35 u36 u37 u38 u39 u40 u41 u42 u43 u44 u45 u46 u47 u48 u49 u50 u51 u52 u53 u54 u55 u56 u57 u58 u59 u60 u61 u62 u63 u64 u65 u66 u67 u68 u69 u70 u71 u72 u73 u74 u75 u76 u77 u78 u79 u80 u81 u82 u83 u84 u85 u86 u87 u88 u89 u90 u91 u92 u93 u94 u95 u96 u97 u98 u99 u100 u101 u102 u103 u104 u105 u106 u107 u108 u109 u110 u111 u112 u113 u114 u115 u116 u117 u118 u119 u120 u121 u122 u123 u124 u125 u126 u127 u128 u129 u130 u131 u132 u133 u134 u135 u136 u137 u138 u139 u140 u141 u142 u143 u144 u145 u146 u147 u148 u149 u150 u151 u152 u153 u154 u155 u156 u157 u158 u159 u160 u161 u162 u163 u164 u165 u166 u167 u168 u169 u170 u171 u172 : Value) (hX4 : BoxR w W4 w.heap.size t m) (hsu : SmallR t) (hF : Fin W4 wc b9) :
    Code.wp Tryz.prog tailE (bodyPost Tryz.prog Tryz.f4 fun e w' => e = .returned (.bool true) ∧ Below w.heap.size w w') (FrE w.heap.size b9 u0 u1 u2 u3 u5 u6 u7 u8 u10 u11 u12 u13 u14 u15 u16 u17 u18 u19 u20 u21 u22 u23 u24 u25 u26 u27 u28 u29 u30 u31 u32 u33 u34 u35 u36 u37 u38 u39 u40 u41 u42 u43 u44 u45 u46 u47 u48 u49 u50 u51 u52 u53 u54 u55 u56 u57 u58 u59 u60 u61 u62 u63 u64 u65 u66 u67 u68 u69 u70 u71 u72 u73 u74 u75 u76 u77 u78 u79 u80 u81 u82 u83 u84 u85 u86 u87 u88 u89 u90 u91 u92 u93 u94 u95 u96 u97 u98 u99 u100 u101 u102 u103 u104 u105 u106 u107 u108 u109 u110 u111 u112 u113 u114 u115 u116 u117 u118 u119 u120 u121 u122 u123 u124 u125 u126 u127 u128 u129 u130 u131 u132 u133 u134 u135 u136 u137 u138 u139 u140 u141 u142 u143 u144 u145 u146 u147 u148 u149 u150 u151 u152 u153 u154 u155 u156 u157 u158 u159 u160 u161 u162 u163 u164 u165 u166 u167 u168 u169 u170 u171 u172) wc := by
  conv => arg 2; whnf
  unfold FrE
  try dsimp only
  have HX4 := Lib.hid hX4
  have HSm := Lib.hid hsu
  have hcut := Lib.hid hF
  clear hX4 hsu hF
  obtain ⟨t', m', hblk, hh, hlen, hbl⟩ := hcut.out
  have HX := Lib.hid (HX4.out.later hbl)
  have hbr : BoxR wc wc b9 t' m' := ⟨hblk, hh, Below.refl _ _⟩
  have HR := Lib.hid (hbr.right hlen.small)
  have HRR := Lib.hid (hbr.rright hlen.small)
  clear hbr
  have HN1 := Lib.hid (same_on HX.out.holds hh HSm.out)
  have HN2b := Lib.hid (hsame_on HX.out.holds hh HSm.out)
  have HN3 := Lib.hid (same_on hh HX.out.holds hlen.small2)
  obtain ⟨p, hp⟩ : ∃ p, rulesB t' = p := ⟨_, rfl⟩
  obtain ⟨v, hv⟩ : ∃ v, eqR t t' = v := ⟨_, rfl⟩
  simp only [hp] at HR HRR
  simp only [eqR_symm t' t] at HN3
  simp only [hv] at HN1 HN2b HN3
  have e1 : (p == p) = true := by cases p <;> rfl
  have e2 : (v == v) = true := by cases v <;> rfl
  have x0 : ∀ u, Below wc.heap.size wc u → u.cell? ⟨w.heap.size, 0, none⟩ = some (.slice m.items.A m.items.n m.items.c) := fun u hu => (HX.out.blk.below hu).cell 0
  have x1 : ∀ u, Below wc.heap.size wc u → u.cell? ⟨w.heap.size, 1, none⟩ = some (.slice m.promos.A m.promos.n m.promos.c) := fun u hu => (HX.out.blk.below hu).cell 1
  have x2 : ∀ u, Below wc.heap.size wc u → u.cell? ⟨w.heap.size, 2, none⟩ = some (.bool t.tax.incl) := fun u hu => (HX.out.blk.below hu).cell 2
  have x3 : ∀ u, Below wc.heap.size wc u → u.cell? ⟨w.heap.size, 3, none⟩ = some (.bool t.tax.byOrder) := fun u hu => (HX.out.blk.below hu).cell 3
  have x4 : ∀ u, Below wc.heap.size wc u → u.cell? ⟨w.heap.size, 4, none⟩ = some (.int .i64 t.tax.round) := fun u hu => (HX.out.blk.below hu).cell 4
  have x5 : ∀ u, Below wc.heap.size wc u → u.cell? ⟨w.heap.size, 5, none⟩ = some (.slice m.tax.zones.A m.tax.zones.n m.tax.zones.c) := fun u hu => (HX.out.blk.below hu).cell 5
  have x6 : ∀ u, Below wc.heap.size wc u → u.cell? ⟨w.heap.size, 6, none⟩ = some (.int .i64 t.ship.fee) := fun u hu => (HX.out.blk.below hu).cell 6
  have x7 : ∀ u, Below wc.heap.size wc u → u.cell? ⟨w.heap.size, 7, none⟩ = some (.int .i64 t.ship.free) := fun u hu => (HX.out.blk.below hu).cell 7
  have x8 : ∀ u, Below wc.heap.size wc u → u.cell? ⟨w.heap.size, 8, none⟩ = some (.int .i64 t.policy.window) := fun u hu => (HX.out.blk.below hu).cell 8
  have x9 : ∀ u, Below wc.heap.size wc u → u.cell? ⟨w.heap.size, 9, none⟩ = some (.int .i64 t.policy.grace) := fun u hu => (HX.out.blk.below hu).cell 9
  have x10 : ∀ u, Below wc.heap.size wc u → u.cell? ⟨w.heap.size, 10, none⟩ = some (.int .i64 t.policy.mode) := fun u hu => (HX.out.blk.below hu).cell 10
  have x11 : ∀ u, Below wc.heap.size wc u → u.cell? ⟨w.heap.size, 11, none⟩ = some (.int .i64 t.policy.restock) := fun u hu => (HX.out.blk.below hu).cell 11
  have x12 : ∀ u, Below wc.heap.size wc u → u.cell? ⟨w.heap.size, 12, none⟩ = some (.slice m.policy.order.A m.policy.order.n m.policy.order.c) := fun u hu => (HX.out.blk.below hu).cell 12
  have x13 : ∀ u, Below wc.heap.size wc u → u.cell? ⟨w.heap.size, 13, none⟩ = some (.slice m.policy.credit.A m.policy.credit.n m.policy.credit.c) := fun u hu => (HX.out.blk.below hu).cell 13
  have y0 : ∀ u, Below wc.heap.size wc u → u.cell? ⟨b9, 0, none⟩ = some (.slice m'.items.A m'.items.n m'.items.c) := fun u hu => (hblk.below hu).cell 0
  have y1 : ∀ u, Below wc.heap.size wc u → u.cell? ⟨b9, 1, none⟩ = some (.slice m'.promos.A m'.promos.n m'.promos.c) := fun u hu => (hblk.below hu).cell 1
  have y2 : ∀ u, Below wc.heap.size wc u → u.cell? ⟨b9, 2, none⟩ = some (.bool t'.tax.incl) := fun u hu => (hblk.below hu).cell 2
  have y3 : ∀ u, Below wc.heap.size wc u → u.cell? ⟨b9, 3, none⟩ = some (.bool t'.tax.byOrder) := fun u hu => (hblk.below hu).cell 3
  have y4 : ∀ u, Below wc.heap.size wc u → u.cell? ⟨b9, 4, none⟩ = some (.int .i64 t'.tax.round) := fun u hu => (hblk.below hu).cell 4
  have y5 : ∀ u, Below wc.heap.size wc u → u.cell? ⟨b9, 5, none⟩ = some (.slice m'.tax.zones.A m'.tax.zones.n m'.tax.zones.c) := fun u hu => (hblk.below hu).cell 5
  have y6 : ∀ u, Below wc.heap.size wc u → u.cell? ⟨b9, 6, none⟩ = some (.int .i64 t'.ship.fee) := fun u hu => (hblk.below hu).cell 6
  have y7 : ∀ u, Below wc.heap.size wc u → u.cell? ⟨b9, 7, none⟩ = some (.int .i64 t'.ship.free) := fun u hu => (hblk.below hu).cell 7
  have y8 : ∀ u, Below wc.heap.size wc u → u.cell? ⟨b9, 8, none⟩ = some (.int .i64 t'.policy.window) := fun u hu => (hblk.below hu).cell 8
  have y9 : ∀ u, Below wc.heap.size wc u → u.cell? ⟨b9, 9, none⟩ = some (.int .i64 t'.policy.grace) := fun u hu => (hblk.below hu).cell 9
  have y10 : ∀ u, Below wc.heap.size wc u → u.cell? ⟨b9, 10, none⟩ = some (.int .i64 t'.policy.mode) := fun u hu => (hblk.below hu).cell 10
  have y11 : ∀ u, Below wc.heap.size wc u → u.cell? ⟨b9, 11, none⟩ = some (.int .i64 t'.policy.restock) := fun u hu => (hblk.below hu).cell 11
  have y12 : ∀ u, Below wc.heap.size wc u → u.cell? ⟨b9, 12, none⟩ = some (.slice m'.policy.order.A m'.policy.order.n m'.policy.order.c) := fun u hu => (hblk.below hu).cell 12
  have y13 : ∀ u, Below wc.heap.size wc u → u.cell? ⟨b9, 13, none⟩ = some (.slice m'.policy.credit.A m'.policy.credit.n m'.policy.credit.c) := fun u hu => (hblk.below hu).cell 13
  clear hp hv hblk hh hlen hbl HX4
  go_wp2_with fail
  refine wp_region_held_drew (S := fun u => Below wc.heap.size wc u) (by kernel_rfl) ((Below.refl _ _).drew) (fun hS0 => ?_)
  refine wpAnyH_ready (rs := [0]) (by kernel_rfl) (by simp) ?_
  refine AllReadyH.cons (o := ⟨some 147, _, _, _, _, _⟩) rfl (fun K hK => ?_) AllReadyH.nil
  go_simp
  refine (awake_on _ hS0).mono ?_
  rintro e wa ⟨rfl, ha⟩
  go_wp2_with fail
  refine hK.out _ _ (ha) (fun hS1 => ?_)
  clear hK K
  try simp only [Act.put, pkA, pkB, pkC]
  refine pkT 1 148 hS1 ?_
  try simp only [Act.put, pkA, pkB, pkC]
  refine pkT 2 149 hS1 ?_
  try simp only [Act.put, pkA, pkB, pkC]
  refine pkT 4 151 hS1 ?_
  try simp only [Act.put, pkA, pkB, pkC]
  refine wpAnyH_ready (rs := [3]) (by kernel_rfl) (by simp) ?_
  refine AllReadyH.cons (o := ⟨some 150, _, _, _, _, _⟩) rfl (fun K hK => ?_) AllReadyH.nil
  go_simp
  refine (HR.out _ hS1).mono ?_
  rintro e wb ⟨rfl, hb⟩
  go_wp2_with fail
  refine hK.out _ _ (hb) (fun hS2 => ?_)
  clear hK K
  try simp only [Act.put, pkA, pkB, pkC]
  refine wpAnyH_ready (rs := [5]) (by kernel_rfl) (by simp) ?_
  refine AllReadyH.cons (o := ⟨some 152, _, _, _, _, _⟩) rfl (fun K hK => ?_) AllReadyH.nil
  go_simp
  refine (HRR.out _ hS2).mono ?_
  rintro e wd ⟨rfl, hd⟩
  go_wp2_with fail
  refine hK.out _ _ (hd) (fun hS3 => ?_)
  clear hK K
  try simp only [Act.put, pkA, pkB, pkC]
  refine pkT 6 153 hS3 ?_
  try simp only [Act.put, pkA, pkB, pkC]
  refine pkT 7 154 hS3 ?_
  try simp only [Act.put, pkA, pkB, pkC]
  refine pkT 8 155 hS3 ?_
  try simp only [Act.put, pkA, pkB, pkC]
  refine pkT 9 156 hS3 ?_
  try simp only [Act.put, pkA, pkB, pkC]
  refine pkT 10 157 hS3 ?_
  try simp only [Act.put, pkA, pkB, pkC]
  refine pkT 12 159 hS3 ?_
  try simp only [Act.put, pkA, pkB, pkC]
  refine pkT 13 160 hS3 ?_
  try simp only [Act.put, pkA, pkB, pkC]
  refine wpAnyH_ready (rs := [11]) (by kernel_rfl) (by simp) ?_
  refine AllReadyH.cons (o := ⟨some 158, _, _, _, _, _⟩) rfl (fun K hK => ?_) AllReadyH.nil
  go_simp
  refine (HN1.out _ hS3).mono ?_
  rintro e we ⟨rfl, he⟩
  go_wp2_with fail
  refine hK.out _ _ (he) (fun hS4 => ?_)
  clear hK K
  try simp only [Act.put, pkA, pkB, pkC]
  refine wpAnyH_ready (rs := [14]) (by kernel_rfl) (by simp) ?_
  refine AllReadyH.cons (o := ⟨some 161, _, _, _, _, _⟩) rfl (fun K hK => ?_) AllReadyH.nil
  go_simp
  refine (HN2b.out _ hS4).mono ?_
  rintro e wf ⟨rfl, hf⟩
  go_wp2_with fail
  refine hK.out _ _ (hf) (fun hS5 => ?_)
  clear hK K
  try simp only [Act.put, pkA, pkB, pkC]
  refine pkT 15 162 hS5 ?_
  try simp only [Act.put, pkA, pkB, pkC]
  refine pkT 16 163 hS5 ?_
  try simp only [Act.put, pkA, pkB, pkC]
  refine pkT 17 164 hS5 ?_
  try simp only [Act.put, pkA, pkB, pkC]
  refine pkT 18 165 hS5 ?_
  try simp only [Act.put, pkA, pkB, pkC]
  refine pkT 19 166 hS5 ?_
  try simp only [Act.put, pkA, pkB, pkC]
  refine pkT 21 168 hS5 ?_
  try simp only [Act.put, pkA, pkB, pkC]
  refine pkT 22 169 hS5 ?_
  try simp only [Act.put, pkA, pkB, pkC]
  refine wpAnyH_ready (rs := [20]) (by kernel_rfl) (by simp) ?_
  refine AllReadyH.cons (o := ⟨some 167, _, _, _, _, _⟩) rfl (fun K hK => ?_) AllReadyH.nil
  go_simp
  refine (HN3.out _ hS5).mono ?_
  rintro e wg ⟨rfl, hg⟩
  go_wp2_with fail
  refine hK.out _ _ (hg) (fun hS6 => ?_)
  clear hK K
  try simp only [Act.put, pkA, pkB, pkC]
  refine wpAnyH_ready (rs := [23]) (by kernel_rfl) (by simp) ?_
  refine AllReadyH.cons (o := ⟨some 170, _, _, _, _, _⟩) rfl (fun K hK => ?_) AllReadyH.nil
  go_simp
  refine (HN2b.out _ hS6).mono ?_
  rintro e wh ⟨rfl, hh⟩
  go_wp2_with fail
  refine hK.out _ _ (hh) (fun hS7 => ?_)
  clear hK K
  try simp only [Act.put, pkA, pkB, pkC]
  refine pkT 24 171 hS7 ?_
  try simp only [Act.put, pkA, pkB, pkC]
  refine pkT 25 172 hS7 ?_
  try simp only [Act.put, pkA, pkB, pkC]
  refine pkT 26 8 hS7 ?_
  try simp only [Act.put, pkA, pkB, pkC]
  refine wpAnyH_done (by kernel_rfl) ?_ _
  have HB9 := Lib.hid (HX.out.below.trans (Below.mono hS7 HX.out.below.size))
  clear x0 y0 x1 y1 x2 y2 x3 y3 x4 y4 x5 y5 x6 y6 x7 y7 x8 y8 x9 y9 x10 y10 x11 y11 x12 y12 x13 y13
  go_wp2
  go_ret
  exact ⟨rfl, HB9.out⟩
end Go.Proofs.YtfcmhgneijipgaaGreat.Ru
