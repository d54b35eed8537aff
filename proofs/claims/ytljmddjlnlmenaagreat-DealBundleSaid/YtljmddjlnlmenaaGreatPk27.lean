/- The statements' Promo: a bundle. (made by wip/gen-play.py) · The statements' Promo: its least, its code, its group. (made by wip/gen-play.py) · The statements' Promo: its head; whole. (made by wip/gen-play2.py) · The statements' Promo, whole; some that may be together. (made by wip/gen-play2.py) -/
import Derived.Deep.RegionHeld3
import Derived.Test.YtljmddjlnlmenaaGreatPk1
import Derived.Test.YtljmddjlnlmenaaGreatPk18
import Derived.Test.YtljmddjlnlmenaaGreatPk26
set_option maxRecDepth 100000
set_option linter.unusedVariables false

section
namespace Go.Proofs.YtljmddjlnlmenaaGreat.Py
open Go.ChangeShapes Go.WideShapes Go.ChangeAt Go.RowKit
open Kd (Kind Row Own Cells Fit Agree Deep Lst kStr)
open Ap (Scp Prt Tir Prm kPrt kTir kPrm row_Prt row_Tir)
open Pr (promoB headB kindB blankB)
open Mv (Only)
set_option maxRecDepth 1000000 in
set_option maxHeartbeats 8000000 in
theorem at5_4 (w wc : World) (p : Prm) (l : Prm.Lay) (g2 g4 g5 k : Nat) (i gr co : ByteArray) (pr le : Int) (cl : Bool) (sc : Scp) (sl : Scp.Lay) (u0 u1 u3 u6 u7 u8 u9 u10 u11 u12 u13 u14 u15 u16 u17 u18 u19 u20 u21 u22 u23 u24 u25 u26 u27 u28 u29 u30 u31 u32 u33 u34 u35 u36 u37 u38 u39 u40 u41 u42 u43 u44 u45 u46 u47 u48 u49 u50 u51 u52 u53 u54 u55 u56 u57 u58 u59 u60 u61 u62 u63 u64 u65 u66 u67 u68 u69 u70 u71 u72 u73 u74 u75 u76 u77 u78 u79 u80 u81 u82 u83 u84 u85 u86 u87 u88 u89 u90 u91 u92 u93 u94 u95 u96 u97 u98 u99 u100 u101 u102 u103 u104 u105 u106 u107 u108 u109 u110 u111 u112 u113 u114 u115 u116 u117 u118 u119 u120 u121 u122 u123 u124 u125 u126 u127 u128 u129 u130 u131 u132 u133 u134 u135 u136 u137 u138 u139 u140 u141 u142 u143 u144 u145 u146 u147 u148 u149 u150 u151 u152 u153 u154 u155 u156 : Value) (h : Stage w wc p l g2 g4 g5 i 4 pr gr co cl sc sl le) (f : Facts k i 4 pr gr co sc le) (q0 : Prm) (hq : q0 = swP p i 4 pr gr co cl sc le) (hr : Row kPrt w (· < w.heap.size) l.parts.A l.parts.n p.parts) (hn : l.parts.n <= 1000000000000) (hps : Pr.PartsSmall p.parts) :
    Code.wp Tryz.prog tail5 (bodyPost Tryz.prog Tryz.f49 (PlayedAs w k q0)) ⟨#[u0, u1, .pointer (some ⟨g2, 0, none⟩), u3, .pointer (some ⟨g4, 0, none⟩), .pointer (some ⟨g5, 0, none⟩), u6, u7, u8, u9, u10, u11, u12, u13, u14, u15, u16, u17, u18, u19, u20, u21, u22, u23, u24, u25, u26, u27, u28, u29, u30, u31, u32, u33, u34, u35, u36, u37, u38, u39, u40, u41, u42, u43, u44, u45, u46, u47, u48, u49, u50, u51, u52, u53, u54, u55, u56, u57, u58, u59, u60, u61, u62, u63, u64, u65, u66, u67, u68, u69, u70, u71, u72, u73, u74, u75, u76, u77, u78, u79, u80, u81, u82, u83, u84, u85, u86, u87, u88, u89, u90, u91, u92, u93, u94, u95, u96, u97, u98, u99, u100, u101, u102, u103, u104, u105, u106, u107, u108, u109, u110, u111, u112, u113, u114, u115, u116, u117, u118, u119, u120, u121, u122, u123, u124, u125, u126, u127, u128, u129, u130, u131, u132, u133, u134, u135, u136, u137, u138, u139, u140, u141, u142, u143, u144, u145, u146, u147, u148, u149, u150, u151, u152, u153, u154, u155, u156], []⟩ wc := by
  conv => arg 2; whnf
  try dsimp only
  have HS := Lib.hid h
  have HF := Lib.hid f
  have d1 := h.out.cell 1
  have HR := Lib.hid (And.intro hr hps)
  have HLp := Lib.hid (show p.parts.length = l.parts.n from hr.len)
  have x10 := h.src.cell 10
  have e6 := h.out.cell 6
  have e7 := h.out.cell 7
  have e10 := h.out.cell 10
  have ef := h.out.frozen
  clear hr hps
  clear h f
  go_upto_block 0 with (fail)
  go_cut [6] (fun s6 wx => Hid (∃ m, End w wx g4 g5 k q0 m))
  case first =>
    obtain ⟨am, hr⟩ : ∃ r, modN p.amount 3000 = r := ⟨_, rfl⟩
    have hr1 := modN_lt p.amount 3000 (by omega)
    have H1 := Lib.hid (fun W => mod64_any p.amount 3000 W (by omega) (by omega))
    rw [hr] at hr1
    simp only [hr] at H1
    have HM : Hid (0 <= (am : Int) /\ (am : Int) <= 3000) := Lib.hid (by omega)
    have HQ : Hid (q0 = ⟨i, 4, pr, gr, co, cl, ⟨[], []⟩, le, 0, (am : Int), 0, 0, partsOf p.parts, []⟩) := Lib.hid (by rw [hq, <- hr]; rfl)
    clear hq
    have HB0 : Hid (Bun w (((wc.setCell ⟨g5, 6, none⟩ (.slice none 0 0)).setCell ⟨g5, 7, none⟩ (.slice none 0 0)).setCell ⟨g5, 10, none⟩ (.int .i64 (am : Int))) p l g2 g4 g5 i gr co pr le am cl none 0 0 []) := Lib.hid HS.out.bundle
    clear hr hr1
    go_wp2_with fail
    refine (H1.out _).mono ?_
    rintro e w2 ⟨rfl, rfl⟩
    go_wp2_with fail
    generalize hW0 : ((w2.setCell ⟨g5, 6, none⟩ (.slice none 0 0)).setCell ⟨g5, 7, none⟩ (.slice none 0 0)).setCell ⟨g5, 10, none⟩ (.int .i64 (am : Int)) = W0
    rw [hW0] at HB0
    clear hW0 x10 e6 e7 e10 ef
    go_loopw [6] (fun s6 wr => ∃ n : Nat, s6 = .int .i64 n /\ n <= 3 /\ n <= l.parts.n /\ Hid (∃ A c ps, Bun w wr p l g2 g4 g5 i gr co pr le am cl A n c ps /\ ps = partsTo p.parts n)) (fun s6 _ => 3 - (intOf s6).toNat)
    case atStart => exact ⟨0, rfl, by omega, by omega, Lib.hid ⟨_, _, _, HB0.out, rfl⟩⟩
    case round =>
      clear HB0
      obtain ⟨n, rfl, hn3, hnl, hB⟩ := hrel
      obtain ⟨A, c, ps, hB, hPs⟩ := hB.out
      have x13 := hB.src.cell 13
      have n0 : (0 : Int) <= (n : Int) := by omega
      by_cases hlt : n < l.parts.n
      . have k1 : (n : Int) < (l.parts.n : Int) := by omega
        by_cases hl3 : n < 3
        . have k2 : (n : Int) < 3 := by omega
          have HBr := Lib.hid hB
          clear hB
          go_upto_block 2 with (fail)
          go_cut [6] (fun s6 wx => s6 = .int .i64 n /\ Hid (∃ A c ps, Bun w wx p l g2 g4 g5 i gr co pr le am cl A (n + 1) c ps /\ ps = partsTo p.parts (n + 1)))
          case first =>
            obtain ⟨x, hx⟩ := HR.out.1.get hlt
            obtain ⟨g, o, lx, hA, hg1, hg2, hok, a0, a1, a2⟩ := Ap.row_Prt HR.out.1 hx
            have hsm := HR.out.2 n x hx
            have hbel := HBr.out.below
            obtain ⟨ct, hct⟩ : ∃ r, modN x.count 2 = r := ⟨_, rfl⟩
            have hct1 := modN_lt x.count 2 (by omega)
            have H2 := Lib.hid (fun W => mod_any x.count 2 W (by omega) (by omega))
            rw [hct] at hct1
            simp only [hct] at H2
            have HPe : Hid (ps ++ [⟨scopeOf x.scope, 1 + (ct : Int)⟩] = partsTo p.parts (n + 1)) := Lib.hid (by
              unfold partsTo at hPs ⊢
              rw [List.take_add_one, hx, hPs, List.map_append]
              show _ = _ ++ [partN x]
              unfold partN
              rw [hct])
            have HC : Hid (1 <= 1 + (ct : Int) /\ 1 + (ct : Int) <= 100) := Lib.hid (by omega)
            have hwm : IntKind.i64.wrap (1 + (ct : Int)) = 1 + (ct : Int) := IntWalk.i64_in _ (by omega)
            have HSc := Lib.hid (scope_own x.scope lx.scope wr.drew (Sc.holds_more (Sc.holds_below (Sc.holds_below hok.scope hbel (Nat.le_refl _)) (Below.refl wr.heap.size wr).drew hbel.size) fun b hb => Nat.lt_of_lt_of_le hb hbel.size) (by rw [<- hok.scope.skus.row.len]; exact hsm.1) (by rw [<- hok.scope.cats.row.len]; exact hsm.2))
            have c13 : ∀ u, Mid w p l g2 g5 u -> u.cell? ⟨g2, 13, none⟩ = some (.slice (some ⟨g, o, none⟩) l.parts.n l.parts.c) := fun u hu => (hu.src.cell 13).trans (by rw [<- hA]; rfl)
            have p0 : ∀ u, Mid w p l g2 g5 u -> u.cell? ⟨g, o + n * 3, none⟩ = some (.slice lx.scope.skus.A lx.scope.skus.n lx.scope.skus.c) := fun u hu => (hu.below.cell (p := ⟨g, _, none⟩) hg1).trans a0
            have p1 : ∀ u, Mid w p l g2 g5 u -> u.cell? ⟨g, o + n * 3 + 1, none⟩ = some (.slice lx.scope.cats.A lx.scope.cats.n lx.scope.cats.c) := fun u hu => (hu.below.cell (p := ⟨g, _, none⟩) hg1).trans a1
            have p2 : ∀ u, Mid w p l g2 g5 u -> u.cell? ⟨g, o + n * 3 + 2, none⟩ = some (.int .i64 x.count) := fun u hu => (hu.below.cell (p := ⟨g, _, none⟩) hg1).trans a2
            have bz : ∀ u i, Mid w p l g2 g5 u -> u.frozen? ⟨g5, i, none⟩ = false := fun u i hu => hu.frozen i
            have hM := HBr.out.mid
            have e13 := HBr.out.out.cell 13
            clear hx hA hg1 hg2 hok a0 a1 a2 hsm hbel hct hct1 x13
            go_wp2_with fail
            refine wp_region_held_drew (S := fun u => Mid w p l g2 g5 u) (by kernel_rfl) (hM.drew) (fun hS0 => ?_)
            refine pkT 0 116 hS0 ?_
            try simp only [Act.put, pkA, pkB, pkC]
            refine pkT 2 118 hS0 ?_
            try simp only [Act.put, pkA, pkB, pkC]
            refine pkT 3 119 hS0 ?_
            try simp only [Act.put, pkA, pkB, pkC]
            refine pkT 4 120 hS0 ?_
            try simp only [Act.put, pkA, pkB, pkC]
            refine pkT 5 121 hS0 ?_
            try simp only [Act.put, pkA, pkB, pkC]
            refine pkT 6 122 hS0 ?_
            try simp only [Act.put, pkA, pkB, pkC]
            refine pkT 7 123 hS0 ?_
            try simp only [Act.put, pkA, pkB, pkC]
            refine pkT 9 125 hS0 ?_
            try simp only [Act.put, pkA, pkB, pkC]
            refine pkT 10 126 hS0 ?_
            try simp only [Act.put, pkA, pkB, pkC]
            refine pkT 11 127 hS0 ?_
            try simp only [Act.put, pkA, pkB, pkC]
            refine pkT 12 128 hS0 ?_
            try simp only [Act.put, pkA, pkB, pkC]
            refine pkT 13 129 hS0 ?_
            try simp only [Act.put, pkA, pkB, pkC]
            refine pkT 14 130 hS0 ?_
            try simp only [Act.put, pkA, pkB, pkC]
            refine wpAnyH_ready (rs := [1, 8]) (by kernel_rfl) (by simp) ?_
            refine AllReadyH.cons (o := ⟨some 117, _, _, _, _, _⟩) rfl (fun K hK => ?_) ?_
            ·
              go_simp
              refine hK.out _ _ (hS0) (fun hS1 => ?_)
              clear hK K
              try simp only [Act.put, pkA, pkB, pkC]
              refine wpAnyH_ready (rs := [8]) (by kernel_rfl) (by simp) ?_
              refine AllReadyH.cons (o := ⟨some 124, _, _, _, _, _⟩) rfl (fun K hK => ?_) AllReadyH.nil
              go_simp
              refine HSc.out.mono ?_
              rintro e wz ⟨ls, rfl, o1, o2, _, hbz⟩
              have HBz : Hid (Bun w wz p l g2 g4 g5 i gr co pr le am cl A n c ps) := Lib.hid (HBr.out.later (Hk.andThen (Below.refl _ _).drew hbz))
              have HPz := Lib.hid (part_rep (W := wz) (HBr.out.later (Below.refl _ _).drew) o1 o2 (ct := 1 + (ct : Int)) (by have := HC.out; omega))
              have hmz := HBz.out.mid
              have q13 := HBz.out.out.cell 13
              have q13a : ∀ o : Obj, (wz.alloc o).cell? ⟨g5, 13, none⟩ = some (.slice A n c) := fun o => (HBz.out.out.alloc o).cell 13
              go_wp2_with fail
              refine hK.out _ _ (hmz) (fun hS2 => ?_)
              clear hK K
              try simp only [Act.put, pkA, pkB, pkC]
              refine wpAnyH_ready (rs := [15]) (by kernel_rfl) (by simp) ?_
              refine AllReadyH.cons (o := ⟨some 131, _, _, _, _, _⟩) rfl (fun K hK => ?_) AllReadyH.nil
              go_simp
              refine (H2.out _).mono ?_
              rintro e wb ⟨rfl, rfl⟩
              go_wp2_with fail
              refine hK.out _ _ (hS2) (fun hS3 => ?_)
              clear hK K
              try simp only [Act.put, pkA, pkB, pkC]
              refine pkT 16 132 hS3 ?_
              try simp only [Act.put, pkA, pkB, pkC]
              refine pkT 17 133 hS3 ?_
              try simp only [Act.put, pkA, pkB, pkC]
              refine wpAnyH_ready (rs := [18]) (by kernel_rfl) (by simp) ?_
              refine AllReadyH.cons (o := ⟨some 134, _, _, _, _, _⟩) rfl (fun K hK => ?_) AllReadyH.nil
              go_simp
              refine hK.out _ _ ((Mid.alloc hS3 _)) (fun hS4 => ?_)
              clear hK K
              try simp only [Act.put, pkA, pkB, pkC]
              refine wpAnyH_ready (rs := [19]) (by kernel_rfl) (by simp) ?_
              refine AllReadyH.cons (o := ⟨some 135, _, _, _, _, _⟩) rfl (fun K hK => ?_) AllReadyH.nil
              refine Kd.step_push (o := ⟨some 135, _, _, _, _, _⟩) (W := wb) (F := fun b => b < wb.heap.size /\ (Value.slice A n c).ownBlock ≠ some b /\ b ≠ g4 /\ b ≠ g5 /\ w.heap.size <= b) (B := w.heap.size) (n := n) (v := .slice A n c) (xs := ps) (y := ⟨scopeOf x.scope, 1 + (ct : Int)⟩) (cs := [.slice ls.skus.A ls.skus.n ls.skus.c, .slice ls.cats.A ls.cats.n ls.cats.c, .int .i64 (1 + (ct : Int))]) Ap.prt_t rfl (.tmp 117) (.tmp 134) rfl rfl rfl rfl HBz.out.parts HPz.out (by omega) (by omega) HBz.out.below.size (fun q hq => ⟨hq.1, hq.2.1⟩) ?_
              intro g1 cap w9 hown hgrow hfr
              have HB9 := Lib.hid (HBz.out.push (part_ok x.scope HC.out) hown hgrow hfr)
              have hm9 : Mid w p l g2 g5 w9 := HBz.out.mid.grown hgrow (fun e => HBz.out.far2 e.symm) (fun e => HBz.out.far5 e.symm) (fun k hk => (HBz.out.parts.low k hk).1)
              have e139 := (HBz.out.out.grown hgrow (fun e => HBz.out.far5 e.symm)).cell 13
              refine hK.out _ _ (hm9) (fun hS5 => ?_)
              clear hK K
              try simp only [Act.put, pkA, pkB, pkC]
              refine pkT 20 136 hS5 ?_
              try simp only [Act.put, pkA, pkB, pkC]
              refine wpAnyH_ready (rs := [21]) (by kernel_rfl) (by simp) ?_
              refine AllReadyH.cons (o := ⟨none, _, _, _, _, _⟩) rfl (fun K hK => ?_) AllReadyH.nil
              go_simp
              refine hK.out _ _ ((Mid.put hS5 _ _)) (fun hS6 => ?_)
              clear hK K
              try simp only [Act.put, pkA, pkB, pkC]
              refine wpAnyH_done (by kernel_rfl) ?_ _
              go_wp2_with fail
              go_meet
              exact ⟨rfl, Lib.hid ⟨_, _, _, HB9.out, HPe.out⟩⟩
            refine AllReadyH.cons (o := ⟨some 124, _, _, _, _, _⟩) rfl (fun K hK => ?_) AllReadyH.nil
            go_simp
            refine HSc.out.mono ?_
            rintro e wz ⟨ls, rfl, o1, o2, _, hbz⟩
            have HBz : Hid (Bun w wz p l g2 g4 g5 i gr co pr le am cl A n c ps) := Lib.hid (HBr.out.later (Hk.andThen (Below.refl _ _).drew hbz))
            have HPz := Lib.hid (part_rep (W := wz) (HBr.out.later (Below.refl _ _).drew) o1 o2 (ct := 1 + (ct : Int)) (by have := HC.out; omega))
            have hmz := HBz.out.mid
            have q13 := HBz.out.out.cell 13
            have q13a : ∀ o : Obj, (wz.alloc o).cell? ⟨g5, 13, none⟩ = some (.slice A n c) := fun o => (HBz.out.out.alloc o).cell 13
            go_wp2_with fail
            refine hK.out _ _ (hmz) (fun hS1 => ?_)
            clear hK K
            try simp only [Act.put, pkA, pkB, pkC]
            refine wpAnyH_ready (rs := [1, 15]) (by kernel_rfl) (by simp) ?_
            refine AllReadyH.cons (o := ⟨some 117, _, _, _, _, _⟩) rfl (fun K hK => ?_) ?_
            ·
              go_simp
              refine hK.out _ _ (hS1) (fun hS2 => ?_)
              clear hK K
              try simp only [Act.put, pkA, pkB, pkC]
              refine wpAnyH_ready (rs := [15]) (by kernel_rfl) (by simp) ?_
              refine AllReadyH.cons (o := ⟨some 131, _, _, _, _, _⟩) rfl (fun K hK => ?_) AllReadyH.nil
              go_simp
              refine (H2.out _).mono ?_
              rintro e wb ⟨rfl, rfl⟩
              go_wp2_with fail
              refine hK.out _ _ (hS2) (fun hS3 => ?_)
              clear hK K
              try simp only [Act.put, pkA, pkB, pkC]
              refine pkT 16 132 hS3 ?_
              try simp only [Act.put, pkA, pkB, pkC]
              refine pkT 17 133 hS3 ?_
              try simp only [Act.put, pkA, pkB, pkC]
              refine wpAnyH_ready (rs := [18]) (by kernel_rfl) (by simp) ?_
              refine AllReadyH.cons (o := ⟨some 134, _, _, _, _, _⟩) rfl (fun K hK => ?_) AllReadyH.nil
              go_simp
              refine hK.out _ _ ((Mid.alloc hS3 _)) (fun hS4 => ?_)
              clear hK K
              try simp only [Act.put, pkA, pkB, pkC]
              refine wpAnyH_ready (rs := [19]) (by kernel_rfl) (by simp) ?_
              refine AllReadyH.cons (o := ⟨some 135, _, _, _, _, _⟩) rfl (fun K hK => ?_) AllReadyH.nil
              refine Kd.step_push (o := ⟨some 135, _, _, _, _, _⟩) (W := wb) (F := fun b => b < wb.heap.size /\ (Value.slice A n c).ownBlock ≠ some b /\ b ≠ g4 /\ b ≠ g5 /\ w.heap.size <= b) (B := w.heap.size) (n := n) (v := .slice A n c) (xs := ps) (y := ⟨scopeOf x.scope, 1 + (ct : Int)⟩) (cs := [.slice ls.skus.A ls.skus.n ls.skus.c, .slice ls.cats.A ls.cats.n ls.cats.c, .int .i64 (1 + (ct : Int))]) Ap.prt_t rfl (.tmp 117) (.tmp 134) rfl rfl rfl rfl HBz.out.parts HPz.out (by omega) (by omega) HBz.out.below.size (fun q hq => ⟨hq.1, hq.2.1⟩) ?_
              intro g1 cap w9 hown hgrow hfr
              have HB9 := Lib.hid (HBz.out.push (part_ok x.scope HC.out) hown hgrow hfr)
              have hm9 : Mid w p l g2 g5 w9 := HBz.out.mid.grown hgrow (fun e => HBz.out.far2 e.symm) (fun e => HBz.out.far5 e.symm) (fun k hk => (HBz.out.parts.low k hk).1)
              have e139 := (HBz.out.out.grown hgrow (fun e => HBz.out.far5 e.symm)).cell 13
              refine hK.out _ _ (hm9) (fun hS5 => ?_)
              clear hK K
              try simp only [Act.put, pkA, pkB, pkC]
              refine pkT 20 136 hS5 ?_
              try simp only [Act.put, pkA, pkB, pkC]
              refine wpAnyH_ready (rs := [21]) (by kernel_rfl) (by simp) ?_
              refine AllReadyH.cons (o := ⟨none, _, _, _, _, _⟩) rfl (fun K hK => ?_) AllReadyH.nil
              go_simp
              refine hK.out _ _ ((Mid.put hS5 _ _)) (fun hS6 => ?_)
              clear hK K
              try simp only [Act.put, pkA, pkB, pkC]
              refine wpAnyH_done (by kernel_rfl) ?_ _
              go_wp2_with fail
              go_meet
              exact ⟨rfl, Lib.hid ⟨_, _, _, HB9.out, HPe.out⟩⟩
            refine AllReadyH.cons (o := ⟨some 131, _, _, _, _, _⟩) rfl (fun K hK => ?_) AllReadyH.nil
            go_simp
            refine (H2.out _).mono ?_
            rintro e wb ⟨rfl, rfl⟩
            go_wp2_with fail
            refine hK.out _ _ (hS1) (fun hS2 => ?_)
            clear hK K
            try simp only [Act.put, pkA, pkB, pkC]
            refine pkT 16 132 hS2 ?_
            try simp only [Act.put, pkA, pkB, pkC]
            refine pkT 17 133 hS2 ?_
            try simp only [Act.put, pkA, pkB, pkC]
            refine wpAnyH_ready (rs := [1, 18]) (by kernel_rfl) (by simp) ?_
            refine AllReadyH.cons (o := ⟨some 117, _, _, _, _, _⟩) rfl (fun K hK => ?_) ?_
            ·
              go_simp
              refine hK.out _ _ (hS2) (fun hS3 => ?_)
              clear hK K
              try simp only [Act.put, pkA, pkB, pkC]
              refine wpAnyH_ready (rs := [18]) (by kernel_rfl) (by simp) ?_
              refine AllReadyH.cons (o := ⟨some 134, _, _, _, _, _⟩) rfl (fun K hK => ?_) AllReadyH.nil
              go_simp
              refine hK.out _ _ ((Mid.alloc hS3 _)) (fun hS4 => ?_)
              clear hK K
              try simp only [Act.put, pkA, pkB, pkC]
              refine wpAnyH_ready (rs := [19]) (by kernel_rfl) (by simp) ?_
              refine AllReadyH.cons (o := ⟨some 135, _, _, _, _, _⟩) rfl (fun K hK => ?_) AllReadyH.nil
              refine Kd.step_push (o := ⟨some 135, _, _, _, _, _⟩) (W := wb) (F := fun b => b < wb.heap.size /\ (Value.slice A n c).ownBlock ≠ some b /\ b ≠ g4 /\ b ≠ g5 /\ w.heap.size <= b) (B := w.heap.size) (n := n) (v := .slice A n c) (xs := ps) (y := ⟨scopeOf x.scope, 1 + (ct : Int)⟩) (cs := [.slice ls.skus.A ls.skus.n ls.skus.c, .slice ls.cats.A ls.cats.n ls.cats.c, .int .i64 (1 + (ct : Int))]) Ap.prt_t rfl (.tmp 117) (.tmp 134) rfl rfl rfl rfl HBz.out.parts HPz.out (by omega) (by omega) HBz.out.below.size (fun q hq => ⟨hq.1, hq.2.1⟩) ?_
              intro g1 cap w9 hown hgrow hfr
              have HB9 := Lib.hid (HBz.out.push (part_ok x.scope HC.out) hown hgrow hfr)
              have hm9 : Mid w p l g2 g5 w9 := HBz.out.mid.grown hgrow (fun e => HBz.out.far2 e.symm) (fun e => HBz.out.far5 e.symm) (fun k hk => (HBz.out.parts.low k hk).1)
              have e139 := (HBz.out.out.grown hgrow (fun e => HBz.out.far5 e.symm)).cell 13
              refine hK.out _ _ (hm9) (fun hS5 => ?_)
              clear hK K
              try simp only [Act.put, pkA, pkB, pkC]
              refine pkT 20 136 hS5 ?_
              try simp only [Act.put, pkA, pkB, pkC]
              refine wpAnyH_ready (rs := [21]) (by kernel_rfl) (by simp) ?_
              refine AllReadyH.cons (o := ⟨none, _, _, _, _, _⟩) rfl (fun K hK => ?_) AllReadyH.nil
              go_simp
              refine hK.out _ _ ((Mid.put hS5 _ _)) (fun hS6 => ?_)
              clear hK K
              try simp only [Act.put, pkA, pkB, pkC]
              refine wpAnyH_done (by kernel_rfl) ?_ _
              go_wp2_with fail
              go_meet
              exact ⟨rfl, Lib.hid ⟨_, _, _, HB9.out, HPe.out⟩⟩
            refine AllReadyH.cons (o := ⟨some 134, _, _, _, _, _⟩) rfl (fun K hK => ?_) AllReadyH.nil
            go_simp
            refine hK.out _ _ ((Mid.alloc hS2 _)) (fun hS3 => ?_)
            clear hK K
            try simp only [Act.put, pkA, pkB, pkC]
            refine wpAnyH_ready (rs := [1]) (by kernel_rfl) (by simp) ?_
            refine AllReadyH.cons (o := ⟨some 117, _, _, _, _, _⟩) rfl (fun K hK => ?_) AllReadyH.nil
            go_simp
            refine hK.out _ _ (hS3) (fun hS4 => ?_)
            clear hK K
            try simp only [Act.put, pkA, pkB, pkC]
            refine wpAnyH_ready (rs := [19]) (by kernel_rfl) (by simp) ?_
            refine AllReadyH.cons (o := ⟨some 135, _, _, _, _, _⟩) rfl (fun K hK => ?_) AllReadyH.nil
            refine Kd.step_push (o := ⟨some 135, _, _, _, _, _⟩) (W := wb) (F := fun b => b < wb.heap.size /\ (Value.slice A n c).ownBlock ≠ some b /\ b ≠ g4 /\ b ≠ g5 /\ w.heap.size <= b) (B := w.heap.size) (n := n) (v := .slice A n c) (xs := ps) (y := ⟨scopeOf x.scope, 1 + (ct : Int)⟩) (cs := [.slice ls.skus.A ls.skus.n ls.skus.c, .slice ls.cats.A ls.cats.n ls.cats.c, .int .i64 (1 + (ct : Int))]) Ap.prt_t rfl (.tmp 117) (.tmp 134) rfl rfl rfl rfl HBz.out.parts HPz.out (by omega) (by omega) HBz.out.below.size (fun q hq => ⟨hq.1, hq.2.1⟩) ?_
            intro g1 cap w9 hown hgrow hfr
            have HB9 := Lib.hid (HBz.out.push (part_ok x.scope HC.out) hown hgrow hfr)
            have hm9 : Mid w p l g2 g5 w9 := HBz.out.mid.grown hgrow (fun e => HBz.out.far2 e.symm) (fun e => HBz.out.far5 e.symm) (fun k hk => (HBz.out.parts.low k hk).1)
            have e139 := (HBz.out.out.grown hgrow (fun e => HBz.out.far5 e.symm)).cell 13
            refine hK.out _ _ (hm9) (fun hS5 => ?_)
            clear hK K
            try simp only [Act.put, pkA, pkB, pkC]
            refine pkT 20 136 hS5 ?_
            try simp only [Act.put, pkA, pkB, pkC]
            refine wpAnyH_ready (rs := [21]) (by kernel_rfl) (by simp) ?_
            refine AllReadyH.cons (o := ⟨none, _, _, _, _, _⟩) rfl (fun K hK => ?_) AllReadyH.nil
            go_simp
            refine hK.out _ _ ((Mid.put hS5 _ _)) (fun hS6 => ?_)
            clear hK K
            try simp only [Act.put, pkA, pkB, pkC]
            refine wpAnyH_done (by kernel_rfl) ?_ _
            go_wp2_with fail
            go_meet
            exact ⟨rfl, Lib.hid ⟨_, _, _, HB9.out, HPe.out⟩⟩
          case rest =>
            obtain ⟨rfl, hB9⟩ := hcut
            clear HBr x13
            go_wp2
            go_roundw
            case rel => exact ⟨n + 1, by go_num, by omega, by omega, hB9⟩
            case measure => simp [intOf]; omega
        . have k2 : ¬ (n : Int) < 3 := by omega
          have HBw := Lib.hid hB
          have e13 := hB.out.cell 13
          have ef := hB.out.frozen 13
          have hw5 := hB.out.lt
          clear hB
          by_cases hn0 : n = 0
          . exact absurd (show n < 3 by omega) hl3
          . have c0 : ((n : Int) == 0) = false := beq_eq_false_iff_ne.2 (by omega)
            have c1 : ¬ (n : Int) = 0 := by omega
            have HE : Hid (∃ m, End w wr g4 g5 k q0 m) := Lib.hid (by
              rw [HQ.out, (parts_is (.inl (show n = 3 by omega)) (by omega) HLp.out), <- hPs]
              exact HBw.out.fin HF.out HM.out (by omega))
            go_wp2_with fail
            go_meet
            exact HE
      . have k1 : ¬ (n : Int) < (l.parts.n : Int) := by omega
        have HBw := Lib.hid hB
        have e13 := hB.out.cell 13
        have ef := hB.out.frozen 13
        have hw5 := hB.out.lt
        clear hB
        by_cases hn0 : n = 0
        . subst hn0
          have q13 : ∀ o : Obj, (wr.alloc o).cell? ⟨g5, 13, none⟩ = some (.slice A 0 c) := fun o => (World.cell?_of_block (a := ⟨g5, 13, none⟩) (Below.heap_alloc wr o g5 hw5)).trans e13
          have qf : ∀ o : Obj, (wr.alloc o).frozen? ⟨g5, 13, none⟩ = false := fun o => (HBw.out.out.alloc o).frozen 13
          have HE : Hid (∃ m, End w ((wr.setCell ⟨g5, 13, none⟩ (.slice (some ⟨wr.heap.size, 0, none⟩) 1 1)).alloc (.cells #[.slice none 0 0, .slice none 0 0, .int .i64 2] 56)) g4 g5 k q0 m) := Lib.hid (by
            rw [HQ.out, parts_none (by have := HLp.out; omega)]
            have h := HBw.out.lone HF.out HM.out
            rw [World.setCell_alloc_past _ _ _ _ hw5] at h
            exact h)
          go_wp2_with fail
          go_meet
          exact HE
        . have c0 : ((n : Int) == 0) = false := beq_eq_false_iff_ne.2 (by omega)
          have c1 : ¬ (n : Int) = 0 := by omega
          have HE : Hid (∃ m, End w wr g4 g5 k q0 m) := Lib.hid (by
              rw [HQ.out, (parts_is (.inr (show p.parts.length <= n by have := HLp.out; omega)) (by omega) HLp.out), <- hPs]
              exact HBw.out.fin HF.out HM.out (by omega))
          go_wp2_with fail
          go_meet
          exact HE
  case rest =>
    obtain ⟨m, hE⟩ := hcut.out
    apply_assumption
    exact at6 w wc g4 g5 k q0 m _ _ _ _ _ _ _ _ _ _ _ _ _ _ _ _ _ _ _ _ _ _ _ _ _ _ _ _ _ _ _ _ _ _ _ _ _ _ _ _ _ _ _ _ _ _ _ _ _ _ _ _ _ _ _ _ _ _ _ _ _ _ _ _ _ _ _ _ _ _ _ _ _ _ _ _ _ _ _ _ _ _ _ _ _ _ _ _ _ _ _ _ _ _ _ _ _ _ _ _ _ _ _ _ _ _ _ _ _ _ _ _ _ _ _ _ _ _ _ _ _ _ _ _ _ _ _ _ _ _ _ _ _ _ _ _ _ _ _ _ _ _ _ _ _ _ _ _ _ _ _ _ _ _ _ hE
end Go.Proofs.YtljmddjlnlmenaaGreat.Py
end
section
namespace Go.Proofs.YtljmddjlnlmenaaGreat.Py
open Go.ChangeShapes Go.WideShapes Go.ChangeAt Go.RowKit
open Kd (Kind Row Own Cells Fit Agree Deep Lst kStr)
open Ap (Scp Prt Tir Prm kPrt kTir kPrm row_Prt row_Tir)
open Pr (promoB headB kindB blankB)
open Mv (Only)
noncomputable def tail4 : Code := match Tryz.f49.body with
  | some (.seq _ (.seq _ (.seq _ (.seq _ c)))) => c
  | _ => .skip
noncomputable def tail3 : Code := match Tryz.f49.body with
  | some (.seq _ (.seq _ (.seq _ c))) => c
  | _ => .skip
noncomputable def tail2 : Code := match Tryz.f49.body with
  | some (.seq _ (.seq _ c)) => c
  | _ => .skip
set_option maxRecDepth 1000000 in
set_option maxHeartbeats 8000000 in
theorem sw_any (w wc : World) (p : Prm) (l : Prm.Lay) (g2 g4 g5 k : Nat) (i gr co : ByteArray) (kd pr le : Int) (cl : Bool) (sc : Scp) (sl : Scp.Lay) (u0 u1 u3 u6 u7 u8 u9 u10 u11 u12 u13 u14 u15 u16 u17 u18 u19 u20 u21 u22 u23 u24 u25 u26 u27 u28 u29 u30 u31 u32 u33 u34 u35 u36 u37 u38 u39 u40 u41 u42 u43 u44 u45 u46 u47 u48 u49 u50 u51 u52 u53 u54 u55 u56 u57 u58 u59 u60 u61 u62 u63 u64 u65 u66 u67 u68 u69 u70 u71 u72 u73 u74 u75 u76 u77 u78 u79 u80 u81 u82 u83 u84 u85 u86 u87 u88 u89 u90 u91 u92 u93 u94 u95 u96 u97 u98 u99 u100 u101 u102 u103 u104 u105 u106 u107 u108 u109 u110 u111 u112 u113 u114 u115 u116 u117 u118 u119 u120 u121 u122 u123 u124 u125 u126 u127 u128 u129 u130 u131 u132 u133 u134 u135 u136 u137 u138 u139 u140 u141 u142 u143 u144 u145 u146 u147 u148 u149 u150 u151 u152 u153 u154 u155 u156 : Value) (h : Stage w wc p l g2 g4 g5 i kd pr gr co cl sc sl le) (f : Facts k i kd pr gr co sc le) (q0 : Prm) (hq : q0 = swP p i kd pr gr co cl sc le) (hh : Ap.Prm.Holds w (· < w.heap.size) p l) (hS : Pr.PrmSmall p l) :
    Code.wp Tryz.prog tail5 (bodyPost Tryz.prog Tryz.f49 (PlayedAs w k q0)) ⟨#[u0, u1, .pointer (some ⟨g2, 0, none⟩), u3, .pointer (some ⟨g4, 0, none⟩), .pointer (some ⟨g5, 0, none⟩), u6, u7, u8, u9, u10, u11, u12, u13, u14, u15, u16, u17, u18, u19, u20, u21, u22, u23, u24, u25, u26, u27, u28, u29, u30, u31, u32, u33, u34, u35, u36, u37, u38, u39, u40, u41, u42, u43, u44, u45, u46, u47, u48, u49, u50, u51, u52, u53, u54, u55, u56, u57, u58, u59, u60, u61, u62, u63, u64, u65, u66, u67, u68, u69, u70, u71, u72, u73, u74, u75, u76, u77, u78, u79, u80, u81, u82, u83, u84, u85, u86, u87, u88, u89, u90, u91, u92, u93, u94, u95, u96, u97, u98, u99, u100, u101, u102, u103, u104, u105, u106, u107, u108, u109, u110, u111, u112, u113, u114, u115, u116, u117, u118, u119, u120, u121, u122, u123, u124, u125, u126, u127, u128, u129, u130, u131, u132, u133, u134, u135, u136, u137, u138, u139, u140, u141, u142, u143, u144, u145, u146, u147, u148, u149, u150, u151, u152, u153, u154, u155, u156], []⟩ wc := by
  have hk := f.kind
  by_cases e1 : kd = 1
  . subst e1; exact at5_1 w wc p l g2 g4 g5 k i gr co pr le cl sc sl _ _ _ _ _ _ _ _ _ _ _ _ _ _ _ _ _ _ _ _ _ _ _ _ _ _ _ _ _ _ _ _ _ _ _ _ _ _ _ _ _ _ _ _ _ _ _ _ _ _ _ _ _ _ _ _ _ _ _ _ _ _ _ _ _ _ _ _ _ _ _ _ _ _ _ _ _ _ _ _ _ _ _ _ _ _ _ _ _ _ _ _ _ _ _ _ _ _ _ _ _ _ _ _ _ _ _ _ _ _ _ _ _ _ _ _ _ _ _ _ _ _ _ _ _ _ _ _ _ _ _ _ _ _ _ _ _ _ _ _ _ _ _ _ _ _ _ _ _ _ _ _ _ _ h f q0 hq
  by_cases e2 : kd = 2
  . subst e2; exact at5_2 w wc p l g2 g4 g5 k i gr co pr le cl sc sl _ _ _ _ _ _ _ _ _ _ _ _ _ _ _ _ _ _ _ _ _ _ _ _ _ _ _ _ _ _ _ _ _ _ _ _ _ _ _ _ _ _ _ _ _ _ _ _ _ _ _ _ _ _ _ _ _ _ _ _ _ _ _ _ _ _ _ _ _ _ _ _ _ _ _ _ _ _ _ _ _ _ _ _ _ _ _ _ _ _ _ _ _ _ _ _ _ _ _ _ _ _ _ _ _ _ _ _ _ _ _ _ _ _ _ _ _ _ _ _ _ _ _ _ _ _ _ _ _ _ _ _ _ _ _ _ _ _ _ _ _ _ _ _ _ _ _ _ _ _ _ _ _ _ h f q0 hq
  by_cases e3 : kd = 3
  . subst e3; exact at5_3 w wc p l g2 g4 g5 k i gr co pr le cl sc sl _ _ _ _ _ _ _ _ _ _ _ _ _ _ _ _ _ _ _ _ _ _ _ _ _ _ _ _ _ _ _ _ _ _ _ _ _ _ _ _ _ _ _ _ _ _ _ _ _ _ _ _ _ _ _ _ _ _ _ _ _ _ _ _ _ _ _ _ _ _ _ _ _ _ _ _ _ _ _ _ _ _ _ _ _ _ _ _ _ _ _ _ _ _ _ _ _ _ _ _ _ _ _ _ _ _ _ _ _ _ _ _ _ _ _ _ _ _ _ _ _ _ _ _ _ _ _ _ _ _ _ _ _ _ _ _ _ _ _ _ _ _ _ _ _ _ _ _ _ _ _ _ _ _ h f q0 hq
  by_cases e4 : kd = 4
  . subst e4; exact at5_4 w wc p l g2 g4 g5 k i gr co pr le cl sc sl _ _ _ _ _ _ _ _ _ _ _ _ _ _ _ _ _ _ _ _ _ _ _ _ _ _ _ _ _ _ _ _ _ _ _ _ _ _ _ _ _ _ _ _ _ _ _ _ _ _ _ _ _ _ _ _ _ _ _ _ _ _ _ _ _ _ _ _ _ _ _ _ _ _ _ _ _ _ _ _ _ _ _ _ _ _ _ _ _ _ _ _ _ _ _ _ _ _ _ _ _ _ _ _ _ _ _ _ _ _ _ _ _ _ _ _ _ _ _ _ _ _ _ _ _ _ _ _ _ _ _ _ _ _ _ _ _ _ _ _ _ _ _ _ _ _ _ _ _ _ _ _ _ _ h f q0 hq hh.parts.row hS.np hS.parts
  by_cases e5 : kd = 5
  . subst e5; exact at5_5 w wc p l g2 g4 g5 k i gr co pr le cl sc sl _ _ _ _ _ _ _ _ _ _ _ _ _ _ _ _ _ _ _ _ _ _ _ _ _ _ _ _ _ _ _ _ _ _ _ _ _ _ _ _ _ _ _ _ _ _ _ _ _ _ _ _ _ _ _ _ _ _ _ _ _ _ _ _ _ _ _ _ _ _ _ _ _ _ _ _ _ _ _ _ _ _ _ _ _ _ _ _ _ _ _ _ _ _ _ _ _ _ _ _ _ _ _ _ _ _ _ _ _ _ _ _ _ _ _ _ _ _ _ _ _ _ _ _ _ _ _ _ _ _ _ _ _ _ _ _ _ _ _ _ _ _ _ _ _ _ _ _ _ _ _ _ _ _ h f q0 hq hh.tiers.row hS.nt
  by_cases e6 : kd = 6
  . subst e6; exact at5_6 w wc p l g2 g4 g5 k i gr co pr le cl sc sl _ _ _ _ _ _ _ _ _ _ _ _ _ _ _ _ _ _ _ _ _ _ _ _ _ _ _ _ _ _ _ _ _ _ _ _ _ _ _ _ _ _ _ _ _ _ _ _ _ _ _ _ _ _ _ _ _ _ _ _ _ _ _ _ _ _ _ _ _ _ _ _ _ _ _ _ _ _ _ _ _ _ _ _ _ _ _ _ _ _ _ _ _ _ _ _ _ _ _ _ _ _ _ _ _ _ _ _ _ _ _ _ _ _ _ _ _ _ _ _ _ _ _ _ _ _ _ _ _ _ _ _ _ _ _ _ _ _ _ _ _ _ _ _ _ _ _ _ _ _ _ _ _ _ h f q0 hq hh.tiers.row hS.nt
  obtain rfl : kd = 7 := by omega
  exact at5_7 w wc p l g2 g4 g5 k i gr co pr le cl sc sl _ _ _ _ _ _ _ _ _ _ _ _ _ _ _ _ _ _ _ _ _ _ _ _ _ _ _ _ _ _ _ _ _ _ _ _ _ _ _ _ _ _ _ _ _ _ _ _ _ _ _ _ _ _ _ _ _ _ _ _ _ _ _ _ _ _ _ _ _ _ _ _ _ _ _ _ _ _ _ _ _ _ _ _ _ _ _ _ _ _ _ _ _ _ _ _ _ _ _ _ _ _ _ _ _ _ _ _ _ _ _ _ _ _ _ _ _ _ _ _ _ _ _ _ _ _ _ _ _ _ _ _ _ _ _ _ _ _ _ _ _ _ _ _ _ _ _ _ _ _ _ _ _ _ h f q0 hq
set_option maxRecDepth 1000000 in
set_option maxHeartbeats 8000000 in
theorem at4 (w wc : World) (p : Prm) (l : Prm.Lay) (g2 g4 g5 k : Nat) (i gr co : ByteArray) (kd pr le : Int) (cl : Bool) (sc : Scp) (sl : Scp.Lay) (u0 u1 u3 u6 u7 u8 u9 u10 u11 u12 u13 u14 u15 u16 u17 u18 u19 u20 u21 u22 u23 u24 u25 u26 u27 u28 u29 u30 u31 u32 u33 u34 u35 u36 u37 u38 u39 u40 u41 u42 u43 u44 u45 u46 u47 u48 u49 u50 u51 u52 u53 u54 u55 u56 u57 u58 u59 u60 u61 u62 u63 u64 u65 u66 u67 u68 u69 u70 u71 u72 u73 u74 u75 u76 u77 u78 u79 u80 u81 u82 u83 u84 u85 u86 u87 u88 u89 u90 u91 u92 u93 u94 u95 u96 u97 u98 u99 u100 u101 u102 u103 u104 u105 u106 u107 u108 u109 u110 u111 u112 u113 u114 u115 u116 u117 u118 u119 u120 u121 u122 u123 u124 u125 u126 u127 u128 u129 u130 u131 u132 u133 u134 u135 u136 u137 u138 u139 u140 u141 u142 u143 u144 u145 u146 u147 u148 u149 u150 u151 u152 u153 u154 u155 u156 : Value) (h : Stage w wc p l g2 g4 g5 i kd pr gr co cl sc sl le) (f : Facts k i kd pr gr co sc le) (q0 : Prm) (hq1 : le = 0) (hq : q0 = swP p i kd pr gr co cl sc (leOf p)) (hh : Ap.Prm.Holds w (· < w.heap.size) p l) (hS : Pr.PrmSmall p l) :
    Code.wp Tryz.prog tail4 (bodyPost Tryz.prog Tryz.f49 (PlayedAs w k q0)) ⟨#[u0, u1, .pointer (some ⟨g2, 0, none⟩), u3, .pointer (some ⟨g4, 0, none⟩), .pointer (some ⟨g5, 0, none⟩), u6, u7, u8, u9, u10, u11, u12, u13, u14, u15, u16, u17, u18, u19, u20, u21, u22, u23, u24, u25, u26, u27, u28, u29, u30, u31, u32, u33, u34, u35, u36, u37, u38, u39, u40, u41, u42, u43, u44, u45, u46, u47, u48, u49, u50, u51, u52, u53, u54, u55, u56, u57, u58, u59, u60, u61, u62, u63, u64, u65, u66, u67, u68, u69, u70, u71, u72, u73, u74, u75, u76, u77, u78, u79, u80, u81, u82, u83, u84, u85, u86, u87, u88, u89, u90, u91, u92, u93, u94, u95, u96, u97, u98, u99, u100, u101, u102, u103, u104, u105, u106, u107, u108, u109, u110, u111, u112, u113, u114, u115, u116, u117, u118, u119, u120, u121, u122, u123, u124, u125, u126, u127, u128, u129, u130, u131, u132, u133, u134, u135, u136, u137, u138, u139, u140, u141, u142, u143, u144, u145, u146, u147, u148, u149, u150, u151, u152, u153, u154, u155, u156], []⟩ wc := by
  conv => arg 2; whnf
  try dsimp only
  have HS := Lib.hid h
  have HF := Lib.hid f
  have HH := Lib.hid (And.intro hh hS)
  have hw5 := h.out.lt
  have x8 := h.src.cell 8
  have e8 := h.out.cell 8
  have ef := h.out.frozen 8
  obtain ⟨r, hr⟩ : ∃ r, modN p.least 3 = r := ⟨_, rfl⟩
  have H1 := Lib.hid (fun W => mod64_any p.least 3 W (by omega) (by omega))
  simp only [hr] at H1
  have HR0 := Lib.hid hr
  clear hr
  obtain ⟨t, ht⟩ : ∃ t, modN p.least 9000 = t := ⟨_, rfl⟩
  have ht1 := modN_lt p.least 9000 (by omega)
  have H2 := Lib.hid (fun W => mod64_any p.least 9000 W (by omega) (by omega))
  rw [ht] at ht1
  simp only [ht] at H2
  have HT : Hid (0 <= (t : Int) /\ (t : Int) <= 10000000000000) := Lib.hid (by omega)
  have HV : Hid (leOf p = if r = 1 then (t : Int) else 0) := Lib.hid (by unfold leOf; rw [HR0.out, ht])
  clear ht ht1
  have HQ := Lib.hid (And.intro hq1 hq)
  clear h f hh hS hq1 hq
  go_wp2_with fail
  refine (H1.out _).mono ?_
  rintro e w2 ⟨rfl, rfl⟩
  go_upto_if 51 with (fail)
  go_cut [] (fun wx => Hid (∃ le', le' = leOf p /\ Stage w wx p l g2 g4 g5 i kd pr gr co cl sc sl le' /\ Facts k i kd pr gr co sc le'))
  case first =>
    by_cases hr : r = 1
    . subst hr
      go_wp2_with fail
      refine (H2.out _).mono ?_
      rintro e w3 ⟨rfl, rfl⟩
      go_wp2_with fail
      go_meet
      exact Lib.hid ⟨_, by rw [HV.out]; exact (if_pos trivial).symm, HS.out.least _, ⟨HF.out.id, HF.out.k10, HF.out.kind, HF.out.prio, HF.out.gr, HF.out.co, HF.out.scope, HT.out⟩⟩
    . have c2n : ¬ r = 1 := by assumption
      have c1 : ((r : Int) == 1) = false := beq_eq_false_iff_ne.2 (by omega)
      have c2 : ¬ (r : Int) = 1 := by omega
      go_wp2
      go_meet
      exact Lib.hid ⟨_, by rw [HV.out, if_neg c2n, HQ.out.1], HS.out, HF.out⟩
  case rest =>
    obtain ⟨le', he, h2, f2⟩ := hcut.out
    apply_assumption
    exact sw_any w _ p l g2 g4 g5 k i gr co kd pr le' cl sc sl _ _ _ _ _ _ _ _ _ _ _ _ _ _ _ _ _ _ _ _ _ _ _ _ _ _ _ _ _ _ _ _ _ _ _ _ _ _ _ _ _ _ _ _ _ _ _ _ _ _ _ _ _ _ _ _ _ _ _ _ _ _ _ _ _ _ _ _ _ _ _ _ _ _ _ _ _ _ _ _ _ _ _ _ _ _ _ _ _ _ _ _ _ _ _ _ _ _ _ _ _ _ _ _ _ _ _ _ _ _ _ _ _ _ _ _ _ _ _ _ _ _ _ _ _ _ _ _ _ _ _ _ _ _ _ _ _ _ _ _ _ _ _ _ _ _ _ _ _ _ _ _ _ _ h2 f2 q0 (by rw [he]; exact HQ.out.2) HH.out.1 HH.out.2
set_option maxRecDepth 1000000 in
set_option maxHeartbeats 8000000 in
theorem at3 (w wc : World) (p : Prm) (l : Prm.Lay) (g2 g4 g5 k : Nat) (i gr co : ByteArray) (kd pr le : Int) (cl : Bool) (sc : Scp) (sl : Scp.Lay) (u0 u1 u3 u6 u7 u8 u9 u10 u11 u12 u13 u14 u15 u16 u17 u18 u19 u20 u21 u22 u23 u24 u25 u26 u27 u28 u29 u30 u31 u32 u33 u34 u35 u36 u37 u38 u39 u40 u41 u42 u43 u44 u45 u46 u47 u48 u49 u50 u51 u52 u53 u54 u55 u56 u57 u58 u59 u60 u61 u62 u63 u64 u65 u66 u67 u68 u69 u70 u71 u72 u73 u74 u75 u76 u77 u78 u79 u80 u81 u82 u83 u84 u85 u86 u87 u88 u89 u90 u91 u92 u93 u94 u95 u96 u97 u98 u99 u100 u101 u102 u103 u104 u105 u106 u107 u108 u109 u110 u111 u112 u113 u114 u115 u116 u117 u118 u119 u120 u121 u122 u123 u124 u125 u126 u127 u128 u129 u130 u131 u132 u133 u134 u135 u136 u137 u138 u139 u140 u141 u142 u143 u144 u145 u146 u147 u148 u149 u150 u151 u152 u153 u154 u155 u156 : Value) (h : Stage w wc p l g2 g4 g5 i kd pr gr co cl sc sl le) (f : Facts k i kd pr gr co sc le) (q0 : Prm) (hq1 : le = 0) (hq2 : co = ⟨#[]⟩) (hq : q0 = swP p i kd pr gr (coOf p) cl sc (leOf p)) (hh : Ap.Prm.Holds w (· < w.heap.size) p l) (hS : Pr.PrmSmall p l) :
    Code.wp Tryz.prog tail3 (bodyPost Tryz.prog Tryz.f49 (PlayedAs w k q0)) ⟨#[u0, u1, .pointer (some ⟨g2, 0, none⟩), u3, .pointer (some ⟨g4, 0, none⟩), .pointer (some ⟨g5, 0, none⟩), u6, u7, u8, u9, u10, u11, u12, u13, u14, u15, u16, u17, u18, u19, u20, u21, u22, u23, u24, u25, u26, u27, u28, u29, u30, u31, u32, u33, u34, u35, u36, u37, u38, u39, u40, u41, u42, u43, u44, u45, u46, u47, u48, u49, u50, u51, u52, u53, u54, u55, u56, u57, u58, u59, u60, u61, u62, u63, u64, u65, u66, u67, u68, u69, u70, u71, u72, u73, u74, u75, u76, u77, u78, u79, u80, u81, u82, u83, u84, u85, u86, u87, u88, u89, u90, u91, u92, u93, u94, u95, u96, u97, u98, u99, u100, u101, u102, u103, u104, u105, u106, u107, u108, u109, u110, u111, u112, u113, u114, u115, u116, u117, u118, u119, u120, u121, u122, u123, u124, u125, u126, u127, u128, u129, u130, u131, u132, u133, u134, u135, u136, u137, u138, u139, u140, u141, u142, u143, u144, u145, u146, u147, u148, u149, u150, u151, u152, u153, u154, u155, u156], []⟩ wc := by
  conv => arg 2; whnf
  try dsimp only
  have HS := Lib.hid h
  have HF := Lib.hid f
  have HH := Lib.hid (And.intro hh hS)
  have hw5 := h.out.lt
  have x4 := h.src.cell 4
  have e4 := h.out.cell 4
  have ef := h.out.frozen 4
  have q4 : ∀ o : Obj, (wc.alloc o).cell? ⟨g5, 4, none⟩ = some (.string co) := fun o => (h.out.alloc o).cell 4
  have qf : ∀ o : Obj, (wc.alloc o).frozen? ⟨g5, 4, none⟩ = false := fun o => (h.out.alloc o).frozen 4
  have H0 := Lib.hid (fun W => pick_any p.code W hh.code)
  obtain ⟨r, hr⟩ : ∃ r, modN (pickS p.code) 3 = r := ⟨_, rfl⟩
  have H1 := Lib.hid (fun W => mod_any (pickS p.code) 3 W (by omega) (by omega))
  simp only [hr] at H1
  have HR0 := Lib.hid hr
  clear hr
  have H2 := Lib.hid (fun W => code_any (p.code.size : Int) W)
  have ht1 := modN_lt (p.code.size : Int) 3 (by omega)
  have hv : coOf p = if r = 1 then codeS (modN (p.code.size : Int) 3) else ⟨#[]⟩ := by unfold coOf; rw [HR0.out]
  generalize modN (p.code.size : Int) 3 = t at H2 ht1 hv
  have HV := Lib.hid hv
  have HT : Hid (blankB (codeS t) = true /\ (codeS t).size <= maxLen) := Lib.hid ⟨by unfold Pr.blankB; rw [code_name (by omega), Bool.or_true], by rw [code_size]; unfold maxLen; omega⟩
  clear ht1 hv
  have HQ := Lib.hid (And.intro hq1 (And.intro hq2 hq))
  clear h f hh hS hq1 hq2 hq
  go_wp2_with fail
  refine (H0.out _).mono ?_
  rintro e w1 ⟨rfl, rfl⟩
  go_wp2_with fail
  refine (H1.out _).mono ?_
  rintro e w2 ⟨rfl, rfl⟩
  go_upto_if 42 with (fail)
  go_cut [] (fun wx => Hid (∃ co', co' = coOf p /\ Stage w wx p l g2 g4 g5 i kd pr gr co' cl sc sl le /\ Facts k i kd pr gr co' sc le))
  case first =>
    by_cases hr : r = 1
    . subst hr
      go_wp2_with fail
      refine (H2.out _).mono ?_
      rintro e w3 ⟨rfl, hb3⟩
      have HS3 := Lib.hid (HS.out.later hb3)
      have e43 := HS3.out.out.cell 4
      have ef3 := HS3.out.out.frozen 4
      clear hb3
      go_wp2_with fail
      go_meet
      exact Lib.hid ⟨_, by rw [HV.out]; exact (if_pos trivial).symm, HS3.out.code _, ⟨HF.out.id, HF.out.k10, HF.out.kind, HF.out.prio, HF.out.gr, HT.out, HF.out.scope, HF.out.least⟩⟩
    . have c2n : ¬ r = 1 := by assumption
      have c1 : ((r : Int) == 1) = false := beq_eq_false_iff_ne.2 (by omega)
      have c2 : ¬ (r : Int) = 1 := by omega
      go_wp2
      go_meet
      exact Lib.hid ⟨_, by rw [HV.out, if_neg c2n, HQ.out.2.1], HS.out, HF.out⟩
  case rest =>
    obtain ⟨co', he, h2, f2⟩ := hcut.out
    apply_assumption
    exact at4 w _ p l g2 g4 g5 k i gr co' kd pr le cl sc sl _ _ _ _ _ _ _ _ _ _ _ _ _ _ _ _ _ _ _ _ _ _ _ _ _ _ _ _ _ _ _ _ _ _ _ _ _ _ _ _ _ _ _ _ _ _ _ _ _ _ _ _ _ _ _ _ _ _ _ _ _ _ _ _ _ _ _ _ _ _ _ _ _ _ _ _ _ _ _ _ _ _ _ _ _ _ _ _ _ _ _ _ _ _ _ _ _ _ _ _ _ _ _ _ _ _ _ _ _ _ _ _ _ _ _ _ _ _ _ _ _ _ _ _ _ _ _ _ _ _ _ _ _ _ _ _ _ _ _ _ _ _ _ _ _ _ _ _ _ _ _ _ _ _ h2 f2 q0 HQ.out.1 (by rw [he]; exact HQ.out.2.2) HH.out.1 HH.out.2
set_option maxRecDepth 1000000 in
set_option maxHeartbeats 8000000 in
theorem at2 (w wc : World) (p : Prm) (l : Prm.Lay) (g2 g4 g5 k : Nat) (i gr co : ByteArray) (kd pr le : Int) (cl : Bool) (sc : Scp) (sl : Scp.Lay) (u0 u1 u3 u6 u7 u8 u9 u10 u11 u12 u13 u14 u15 u16 u17 u18 u19 u20 u21 u22 u23 u24 u25 u26 u27 u28 u29 u30 u31 u32 u33 u34 u35 u36 u37 u38 u39 u40 u41 u42 u43 u44 u45 u46 u47 u48 u49 u50 u51 u52 u53 u54 u55 u56 u57 u58 u59 u60 u61 u62 u63 u64 u65 u66 u67 u68 u69 u70 u71 u72 u73 u74 u75 u76 u77 u78 u79 u80 u81 u82 u83 u84 u85 u86 u87 u88 u89 u90 u91 u92 u93 u94 u95 u96 u97 u98 u99 u100 u101 u102 u103 u104 u105 u106 u107 u108 u109 u110 u111 u112 u113 u114 u115 u116 u117 u118 u119 u120 u121 u122 u123 u124 u125 u126 u127 u128 u129 u130 u131 u132 u133 u134 u135 u136 u137 u138 u139 u140 u141 u142 u143 u144 u145 u146 u147 u148 u149 u150 u151 u152 u153 u154 u155 u156 : Value) (h : Stage w wc p l g2 g4 g5 i kd pr gr co cl sc sl le) (f : Facts k i kd pr gr co sc le) (q0 : Prm) (hq1 : le = 0) (hq2 : co = ⟨#[]⟩) (hq3 : gr = ⟨#[]⟩) (hq : q0 = swP p i kd pr (grOf p) (coOf p) cl sc (leOf p)) (hh : Ap.Prm.Holds w (· < w.heap.size) p l) (hS : Pr.PrmSmall p l) :
    Code.wp Tryz.prog tail2 (bodyPost Tryz.prog Tryz.f49 (PlayedAs w k q0)) ⟨#[u0, u1, .pointer (some ⟨g2, 0, none⟩), u3, .pointer (some ⟨g4, 0, none⟩), .pointer (some ⟨g5, 0, none⟩), u6, u7, u8, u9, u10, u11, u12, u13, u14, u15, u16, u17, u18, u19, u20, u21, u22, u23, u24, u25, u26, u27, u28, u29, u30, u31, u32, u33, u34, u35, u36, u37, u38, u39, u40, u41, u42, u43, u44, u45, u46, u47, u48, u49, u50, u51, u52, u53, u54, u55, u56, u57, u58, u59, u60, u61, u62, u63, u64, u65, u66, u67, u68, u69, u70, u71, u72, u73, u74, u75, u76, u77, u78, u79, u80, u81, u82, u83, u84, u85, u86, u87, u88, u89, u90, u91, u92, u93, u94, u95, u96, u97, u98, u99, u100, u101, u102, u103, u104, u105, u106, u107, u108, u109, u110, u111, u112, u113, u114, u115, u116, u117, u118, u119, u120, u121, u122, u123, u124, u125, u126, u127, u128, u129, u130, u131, u132, u133, u134, u135, u136, u137, u138, u139, u140, u141, u142, u143, u144, u145, u146, u147, u148, u149, u150, u151, u152, u153, u154, u155, u156], []⟩ wc := by
  conv => arg 2; whnf
  try dsimp only
  have HS := Lib.hid h
  have HF := Lib.hid f
  have HH := Lib.hid (And.intro hh hS)
  have hw5 := h.out.lt
  have x3 := h.src.cell 3
  have e3 := h.out.cell 3
  have ef := h.out.frozen 3
  have q3 : ∀ o : Obj, (wc.alloc o).cell? ⟨g5, 3, none⟩ = some (.string gr) := fun o => (h.out.alloc o).cell 3
  have qf : ∀ o : Obj, (wc.alloc o).frozen? ⟨g5, 3, none⟩ = false := fun o => (h.out.alloc o).frozen 3
  have H0 := Lib.hid (fun W => pick_any p.group W hh.group)
  obtain ⟨r, hr⟩ : ∃ r, modN (pickS p.group) 3 = r := ⟨_, rfl⟩
  have H1 := Lib.hid (fun W => mod_any (pickS p.group) 3 W (by omega) (by omega))
  simp only [hr] at H1
  have HR0 := Lib.hid hr
  clear hr
  have H2 := Lib.hid (fun W => mod_any (p.group.size : Int) 2 W (by omega) (by omega))
  have ht1 := modN_lt (p.group.size : Int) 2 (by omega)
  have hv : grOf p = if r = 1 then two 103 (48 + modN (p.group.size : Int) 2) else ⟨#[]⟩ := by unfold grOf; rw [HR0.out]
  generalize modN (p.group.size : Int) 2 = t at H2 ht1 hv
  have HV := Lib.hid hv
  clear hv
  have HT : Hid (blankB (two 103 (48 + t)) = true /\ (two 103 (48 + t)).size <= maxLen) := Lib.hid ⟨by unfold Pr.blankB; rw [two_name (by decide) (by unfold Sr.plain; simp; omega) (by omega) (by omega), Bool.or_true], by rw [two_size]; unfold maxLen; omega⟩
  have hr := fun W => By.run_text (P := Tryz.prog) (c := 1) 119 9 5 Tryz.underlying119 Tryz.underlying5 Tryz.underlying9 (By.Bys.made W 5 (48 + (t : Int)) (by omega) (by omega))
  have e : (48 + (t : Int)).toNat = 48 + t := by omega
  rw [e] at hr
  have hc : ∀ W, (Op.stringOp .add ⟨#[103]⟩ (By.strOf [UInt8.ofNat (48 + t)])).run Tryz.prog W = .ok (.string (two 103 (48 + t))) W := fun W => cat_two 103 (48 + t) W
  obtain ⟨x, hx⟩ : ∃ x, By.strOf [UInt8.ofNat (48 + t)] = x := ⟨_, rfl⟩
  simp only [hx] at hr hc
  clear hx e
  have HQ := Lib.hid (And.intro hq1 (And.intro hq2 (And.intro hq3 hq)))
  clear h f hh hS hq1 hq2 hq3 hq
  go_wp2_with fail
  refine (H0.out _).mono ?_
  rintro e w1 ⟨rfl, rfl⟩
  go_wp2_with fail
  refine (H1.out _).mono ?_
  rintro e w2 ⟨rfl, rfl⟩
  go_upto_if 27 with (fail)
  go_cut [] (fun wx => Hid (∃ gr', gr' = grOf p /\ Stage w wx p l g2 g4 g5 i kd pr gr' co cl sc sl le /\ Facts k i kd pr gr' co sc le))
  case first =>
    by_cases hr1 : r = 1
    . subst hr1
      go_wp2_with fail
      refine (H2.out _).mono ?_
      rintro e w3 ⟨rfl, rfl⟩
      go_wp2
      go_meet
      exact Lib.hid ⟨_, by rw [HV.out]; exact (if_pos trivial).symm, (HS.out.group _).later ((Below.refl _ _).alloc (Nat.le_refl _) _), ⟨HF.out.id, HF.out.k10, HF.out.kind, HF.out.prio, HT.out, HF.out.co, HF.out.scope, HF.out.least⟩⟩
    . have c2n : ¬ r = 1 := by assumption
      have c1 : ((r : Int) == 1) = false := beq_eq_false_iff_ne.2 (by omega)
      have c2 : ¬ (r : Int) = 1 := by omega
      go_wp2
      go_meet
      exact Lib.hid ⟨_, by rw [HV.out, if_neg c2n, HQ.out.2.2.1], HS.out, HF.out⟩
  case rest =>
    obtain ⟨gr', he, h2, f2⟩ := hcut.out
    apply_assumption
    exact at3 w _ p l g2 g4 g5 k i gr' co kd pr le cl sc sl _ _ _ _ _ _ _ _ _ _ _ _ _ _ _ _ _ _ _ _ _ _ _ _ _ _ _ _ _ _ _ _ _ _ _ _ _ _ _ _ _ _ _ _ _ _ _ _ _ _ _ _ _ _ _ _ _ _ _ _ _ _ _ _ _ _ _ _ _ _ _ _ _ _ _ _ _ _ _ _ _ _ _ _ _ _ _ _ _ _ _ _ _ _ _ _ _ _ _ _ _ _ _ _ _ _ _ _ _ _ _ _ _ _ _ _ _ _ _ _ _ _ _ _ _ _ _ _ _ _ _ _ _ _ _ _ _ _ _ _ _ _ _ _ _ _ _ _ _ _ _ _ _ _ h2 f2 q0 HQ.out.1 HQ.out.2.1 (by rw [he]; exact HQ.out.2.2.2) HH.out.1 HH.out.2
end Go.Proofs.YtljmddjlnlmenaaGreat.Py
end
section
namespace Go.Proofs.YtljmddjlnlmenaaGreat.Py
open Go.ChangeShapes Go.WideShapes Go.ChangeAt Go.RowKit
open Kd (Kind Row Own Cells Fit Agree Deep Lst kStr)
open Ap (Scp Prt Tir Prm kPrt kTir kPrm row_Prt row_Tir)
open Pr (promoB headB kindB blankB)
open Mv (Only)
noncomputable def tail1 : Code := match Tryz.f49.body with
  | some (.seq _ c) => c
  | _ => .skip
structure Got (W0 u : World) (g5 : Nat) : Prop where
  high : W0.heap.size <= g5
  blk : Qu.Blk u g5 28 #[.string ⟨#[]⟩, .int .i64 0, .int .i64 0, .string ⟨#[]⟩, .string ⟨#[]⟩, .bool false, .slice none 0 0, .slice none 0 0, .int .i64 0, .int .i64 0, .int .i64 0, .int .i64 0, .int .i64 0, .slice none 0 0, .slice none 0 0]
theorem Got.on {W0 u u' : World} {g5 : Nat} (h : Got W0 u g5) (hb : Below u.heap.size u u') : Got W0 u' g5 := ⟨h.high, h.blk.below hb⟩
theorem got_new {W0 u : World} (h : Below W0.heap.size W0 u) : ∃ W5 g5, u.alloc (.cells #[.string ⟨#[]⟩, .int .i64 0, .int .i64 0, .string ⟨#[]⟩, .string ⟨#[]⟩, .bool false, .slice none 0 0, .slice none 0 0, .int .i64 0, .int .i64 0, .int .i64 0, .int .i64 0, .int .i64 0, .slice none 0 0, .slice none 0 0] 28) = W5 /\ u.heap.size = g5 /\ Got W0 W5 g5 /\ Below W0.heap.size W0 W5 /\ Below u.heap.size u W5 :=
  ⟨_, _, rfl, rfl, ⟨h.size, Qu.Blk.new u _ _⟩, h.alloc h.size _, (Below.refl _ _).alloc (Nat.le_refl _) _⟩
def Rows2 (u W0 : World) (sc : Scp) (sl : Scp.Lay) : Prop := (∀ g, (Value.slice sl.skus.A sl.skus.n sl.skus.c).ownBlock = some g -> (Value.slice sl.cats.A sl.cats.n sl.cats.c).ownBlock ≠ some g) /\ Kd.Own kStr u W0.heap.size 9 (fun _ => False) (.slice sl.skus.A sl.skus.n sl.skus.c) sl.skus.n sc.skus /\ Kd.Own kStr u W0.heap.size 9 (fun _ => False) (.slice sl.cats.A sl.cats.n sl.cats.c) sl.cats.n sc.cats
theorem Rows2.later {u u' W0 : World} {sc : Scp} {sl : Scp.Lay} (h : Rows2 u W0 sc sl) (hb : Below u.heap.size u u') : Rows2 u' W0 sc sl := ⟨h.1, h.2.1.later hb, h.2.2.later hb⟩
theorem rows2_of {u u' W0 : World} {sc : Scp} {sl : Scp.Lay} (h : Below W0.heap.size W0 u) (o1 : Kd.Own kStr u' u.heap.size 9 (fun _ => False) (.slice sl.skus.A sl.skus.n sl.skus.c) sl.skus.n sc.skus) (o2 : Kd.Own kStr u' u.heap.size 9 (fun _ => False) (.slice sl.cats.A sl.cats.n sl.cats.c) sl.cats.n sc.cats) (hap : ∀ g, (Value.slice sl.skus.A sl.skus.n sl.skus.c).ownBlock = some g -> (Value.slice sl.cats.A sl.cats.n sl.cats.c).ownBlock ≠ some g) : Rows2 u' W0 sc sl := ⟨hap, own_down o1 h.size, own_down o2 h.size⟩
theorem Stage.start {w W0 u : World} {p : Prm} {l : Prm.Lay} {g2 g4 g5 : Nat} {i : ByteArray} {kd pr : Int} {cl : Bool} {sc : Scp} {sl : Scp.Lay} (hsrc : Qu.Blk W0 g2 28 #[.string p.id, .int .i64 p.kind, .int .i64 p.priority, .string p.group, .string p.code, .bool p.closes, .slice l.scope.skus.A l.scope.skus.n l.scope.skus.c, .slice l.scope.cats.A l.scope.cats.n l.scope.cats.c, .int .i64 p.least, .int .i64 p.rate, .int .i64 p.amount, .int .i64 p.buy, .int .i64 p.get, .slice l.parts.A l.parts.n l.parts.c, .slice l.tiers.A l.tiers.n l.tiers.c]) (hres : Qu.Blk W0 g4 28 #[.string ⟨#[]⟩, .int .i64 0, .int .i64 0, .string ⟨#[]⟩, .string ⟨#[]⟩, .bool false, .slice none 0 0, .slice none 0 0, .int .i64 0, .int .i64 0, .int .i64 0, .int .i64 0, .int .i64 0, .slice none 0 0, .slice none 0 0]) (hlow : w.heap.size <= g2) (h1 : g2 < g4) (hb0 : Below w.heap.size w W0) (h : Below W0.heap.size W0 u) (hG : Got W0 u g5) (hO : Rows2 u W0 sc sl) :
    Stage w (u.setCells g5 0 [.string i, .int .i64 kd, .int .i64 pr, .string ⟨#[]⟩, .string ⟨#[]⟩, .bool cl, .slice sl.skus.A sl.skus.n sl.skus.c, .slice sl.cats.A sl.cats.n sl.cats.c, .int .i64 0, .int .i64 0, .int .i64 0, .int .i64 0, .int .i64 0, .slice none 0 0, .slice none 0 0]) p l g2 g4 g5 i kd pr ⟨#[]⟩ ⟨#[]⟩ cl sc sl 0 /\ Below W0.heap.size W0 (u.setCells g5 0 [.string i, .int .i64 kd, .int .i64 pr, .string ⟨#[]⟩, .string ⟨#[]⟩, .bool cl, .slice sl.skus.A sl.skus.n sl.skus.c, .slice sl.cats.A sl.cats.n sl.cats.c, .int .i64 0, .int .i64 0, .int .i64 0, .int .i64 0, .int .i64 0, .slice none 0 0, .slice none 0 0]) := by
  have hs := hb0.size
  have h4 := hres.lt
  have hg := hG.high
  have ho : Only u (u.setCells g5 0 [.string i, .int .i64 kd, .int .i64 pr, .string ⟨#[]⟩, .string ⟨#[]⟩, .bool cl, .slice sl.skus.A sl.skus.n sl.skus.c, .slice sl.cats.A sl.cats.n sl.cats.c, .int .i64 0, .int .i64 0, .int .i64 0, .int .i64 0, .int .i64 0, .slice none 0 0, .slice none 0 0]) (Mv.one g5) := only_puts _ u 0 (Only.refl u _)
  have hB : Below W0.heap.size W0 (u.setCells g5 0 [.string i, .int .i64 kd, .int .i64 pr, .string ⟨#[]⟩, .string ⟨#[]⟩, .bool cl, .slice sl.skus.A sl.skus.n sl.skus.c, .slice sl.cats.A sl.cats.n sl.cats.c, .int .i64 0, .int .i64 0, .int .i64 0, .int .i64 0, .int .i64 0, .slice none 0 0, .slice none 0 0]) := Kd.below_puts hG.high _ u 0 h
  have hb := Kd.blk_puts [.string i, .int .i64 kd, .int .i64 pr, .string ⟨#[]⟩, .string ⟨#[]⟩, .bool cl, .slice sl.skus.A sl.skus.n sl.skus.c, .slice sl.cats.A sl.cats.n sl.cats.c, .int .i64 0, .int .i64 0, .int .i64 0, .int .i64 0, .int .i64 0, .slice none 0 0, .slice none 0 0] u 0 _ hG.blk
  exact ⟨⟨hsrc.below hB, hres.below hB, hb, hlow, h1, by omega,
    own_down (own_far hO.2.1 ho (fun b hb2 e => own_ne hO.2.1 hG.blk (by decide) (by rw [hb2, show b = g5 from e]))) hs,
    own_down (own_far hO.2.2 ho (fun b hb2 e => own_ne hO.2.2 hG.blk (by decide) (by rw [hb2, show b = g5 from e]))) hs, hO.1,
    hb0.trans (hB.mono hs)⟩, hB⟩
theorem blank0 : blankB ⟨#[]⟩ = true := by
  unfold Pr.blankB
  rw [ByteArray.toList_eq]; rfl
set_option maxRecDepth 1000000 in
set_option maxHeartbeats 8000000 in
theorem at1 (w W0 : World) (p : Prm) (l : Prm.Lay) (g2 g4 : Nat) (a : Int) (u0 u3 u5 u6 u7 u8 u9 u10 u11 u12 u13 u14 u15 u16 u17 u18 u19 u20 u21 u22 u23 u24 u25 u26 u27 u28 u29 u30 u31 u32 u33 u34 u35 u36 u37 u38 u39 u40 u41 u42 u43 u44 u45 u46 u47 u48 u49 u50 u51 u52 u53 u54 u55 u56 u57 u58 u59 u60 u61 u62 u63 u64 u65 u66 u67 u68 u69 u70 u71 u72 u73 u74 u75 u76 u77 u78 u79 u80 u81 u82 u83 u84 u85 u86 u87 u88 u89 u90 u91 u92 u93 u94 u95 u96 u97 u98 u99 u100 u101 u102 u103 u104 u105 u106 u107 u108 u109 u110 u111 u112 u113 u114 u115 u116 u117 u118 u119 u120 u121 u122 u123 u124 u125 u126 u127 u128 u129 u130 u131 u132 u133 u134 u135 u136 u137 u138 u139 u140 u141 u142 u143 u144 u145 u146 u147 u148 u149 u150 u151 u152 u153 u154 u155 u156 : Value) (hsrc : Qu.Blk W0 g2 28 #[.string p.id, .int .i64 p.kind, .int .i64 p.priority, .string p.group, .string p.code, .bool p.closes, .slice l.scope.skus.A l.scope.skus.n l.scope.skus.c, .slice l.scope.cats.A l.scope.cats.n l.scope.cats.c, .int .i64 p.least, .int .i64 p.rate, .int .i64 p.amount, .int .i64 p.buy, .int .i64 p.get, .slice l.parts.A l.parts.n l.parts.c, .slice l.tiers.A l.tiers.n l.tiers.c]) (hres : Qu.Blk W0 g4 28 #[.string ⟨#[]⟩, .int .i64 0, .int .i64 0, .string ⟨#[]⟩, .string ⟨#[]⟩, .bool false, .slice none 0 0, .slice none 0 0, .int .i64 0, .int .i64 0, .int .i64 0, .int .i64 0, .int .i64 0, .slice none 0 0, .slice none 0 0]) (hlow : w.heap.size <= g2) (h1 : g2 < g4) (hb0 : Below w.heap.size w W0) (hh : Ap.Prm.Holds w (· < w.heap.size) p l) (hS : Pr.PrmSmall p l) :
    Code.wp Tryz.prog tail1 (bodyPost Tryz.prog Tryz.f49 (PlayedAs w (modN a 10) (nearP p (modN a 10)))) ⟨#[u0, .int .i64 a, .pointer (some ⟨g2, 0, none⟩), u3, .pointer (some ⟨g4, 0, none⟩), u5, u6, u7, u8, u9, u10, u11, u12, u13, u14, u15, u16, u17, u18, u19, u20, u21, u22, u23, u24, u25, u26, u27, u28, u29, u30, u31, u32, u33, u34, u35, u36, u37, u38, u39, u40, u41, u42, u43, u44, u45, u46, u47, u48, u49, u50, u51, u52, u53, u54, u55, u56, u57, u58, u59, u60, u61, u62, u63, u64, u65, u66, u67, u68, u69, u70, u71, u72, u73, u74, u75, u76, u77, u78, u79, u80, u81, u82, u83, u84, u85, u86, u87, u88, u89, u90, u91, u92, u93, u94, u95, u96, u97, u98, u99, u100, u101, u102, u103, u104, u105, u106, u107, u108, u109, u110, u111, u112, u113, u114, u115, u116, u117, u118, u119, u120, u121, u122, u123, u124, u125, u126, u127, u128, u129, u130, u131, u132, u133, u134, u135, u136, u137, u138, u139, u140, u141, u142, u143, u144, u145, u146, u147, u148, u149, u150, u151, u152, u153, u154, u155, u156], []⟩ W0 := by
  conv => arg 2; whnf
  try dsimp only
  have ht1 := modN_lt a 10 (by omega)
  have H1 := Lib.hid (fun W => id_any a W)
  generalize modN a 10 = t1 at H1 ht1 ⊢
  have hnr : nearP p t1 = swP p (idS t1) (1 + (modN (IntKind.i64.wrap (p.kind - 1)) 7 : Int)) (modN p.priority 5 : Int) (grOf p) (coOf p) p.closes (scopeOf p.scope) (leOf p) := rfl
  obtain ⟨a7, ha7⟩ : ∃ a7, IntKind.i64.wrap (p.kind - 1) = a7 := ⟨_, rfl⟩
  rw [ha7] at hnr
  have ht7 := modN_lt a7 7 (by omega)
  have H2 := Lib.hid (fun W => mod_any a7 7 W (by omega) (by omega))
  generalize modN a7 7 = t7 at H2 ht7 hnr
  have ht5 := modN_lt p.priority 5 (by omega)
  have H3 := Lib.hid (fun W => mod_any p.priority 5 W (by omega) (by omega))
  generalize modN p.priority 5 = t5 at H3 ht5 hnr
  have HNr := Lib.hid hnr
  clear hnr
  have q7 : IntKind.i64.wrap (1 + (t7 : Int)) = 1 + (t7 : Int) := IntWalk.i64_in _ (by omega)
  have H4 : Hid (∀ u, Below W0.heap.size W0 u -> Calls Tryz.prog 83 #[.agg #[.slice l.scope.skus.A l.scope.skus.n l.scope.skus.c, .slice l.scope.cats.A l.scope.cats.n l.scope.cats.c]] u fun e w' => ∃ sl : Scp.Lay, e = .returned (.agg #[.slice sl.skus.A sl.skus.n sl.skus.c, .slice sl.cats.A sl.cats.n sl.cats.c]) /\ Rows2 w' W0 (scopeOf p.scope) sl /\ Below u.heap.size u w') := Lib.hid fun u hu =>
    (scope_own p.scope l.scope u (Pr.holds_later hh (hb0.trans (hu.mono hb0.size))).scope hS.scope.1 hS.scope.2).mono fun e w' ⟨sl, e1, o1, o2, hap, hb⟩ => ⟨sl, e1, rows2_of hu o1 o2 hap, hb⟩
  have c1 : ∀ u, Below W0.heap.size W0 u -> u.cell? ⟨g2, 1, none⟩ = some (.int .i64 p.kind) := fun u hu => (hsrc.below hu).cell 1
  have c2 : ∀ u, Below W0.heap.size W0 u -> u.cell? ⟨g2, 2, none⟩ = some (.int .i64 p.priority) := fun u hu => (hsrc.below hu).cell 2
  have c5 : ∀ u, Below W0.heap.size W0 u -> u.cell? ⟨g2, 5, none⟩ = some (.bool p.closes) := fun u hu => (hsrc.below hu).cell 5
  have c6 : ∀ u, Below W0.heap.size W0 u -> u.cell? ⟨g2, 6, none⟩ = some (.slice l.scope.skus.A l.scope.skus.n l.scope.skus.c) := fun u hu => (hsrc.below hu).cell 6
  have c7 : ∀ u, Below W0.heap.size W0 u -> u.cell? ⟨g2, 7, none⟩ = some (.slice l.scope.cats.A l.scope.cats.n l.scope.cats.c) := fun u hu => (hsrc.below hu).cell 7
  have HH := Lib.hid (And.intro hh hS)
  have HA := Lib.hid (And.intro hsrc (And.intro hres (And.intro hlow (And.intro h1 hb0))))
  have HF : Hid (Facts t1 (idS t1) (1 + (t7 : Int)) (t5 : Int) ⟨#[]⟩ ⟨#[]⟩ (scopeOf p.scope) 0) := Lib.hid ⟨rfl, by omega, by omega, by omega, ⟨blank0, by decide⟩, ⟨blank0, by decide⟩, ⟨scopeOf_may p.scope, by have := scopeOf_len p.scope; omega, by have := scopeOf_len p.scope; omega⟩, by omega⟩
  clear hsrc hres hlow h1 hb0 hh hS ht1 ht7 ht5
  go_upto_region 1 with (fail)
  go_cut [5] (fun s5 wx => ∃ g5 sl, s5 = .pointer (some ⟨g5, 0, none⟩) /\ Hid (Stage w wx p l g2 g4 g5 (idS t1) (1 + (t7 : Int)) (t5 : Int) ⟨#[]⟩ ⟨#[]⟩ p.closes (scopeOf p.scope) sl 0))
  case first =>
    refine wp_region_held_drew (S := fun u => Below W0.heap.size W0 u) (by kernel_rfl) ((Below.refl _ _).drew) (fun hS0 => ?_)
    refine pkT 0 7 hS0 ?_
    try simp only [Act.put, pkA, pkB, pkC]
    refine pkT 2 9 hS0 ?_
    try simp only [Act.put, pkA, pkB, pkC]
    refine pkT 3 10 hS0 ?_
    try simp only [Act.put, pkA, pkB, pkC]
    refine pkT 4 11 hS0 ?_
    try simp only [Act.put, pkA, pkB, pkC]
    refine pkT 7 14 hS0 ?_
    try simp only [Act.put, pkA, pkB, pkC]
    refine pkT 8 15 hS0 ?_
    try simp only [Act.put, pkA, pkB, pkC]
    refine pkT 10 17 hS0 ?_
    try simp only [Act.put, pkA, pkB, pkC]
    refine pkT 11 18 hS0 ?_
    try simp only [Act.put, pkA, pkB, pkC]
    refine pkT 12 19 hS0 ?_
    try simp only [Act.put, pkA, pkB, pkC]
    refine pkT 13 20 hS0 ?_
    try simp only [Act.put, pkA, pkB, pkC]
    refine wpAnyH_ready (rs := [1, 16]) (by kernel_rfl) (by simp) ?_
    refine AllReadyH.cons (o := ⟨some 8, _, _, _, _, _⟩) rfl (fun K hK => ?_) ?_
    ·
      go_simp
      refine (H1.out _).mono ?_
      rintro e wa ⟨rfl, hba⟩
      have hya := Hk.andThen hS0 hba
      try have hG := hG.on hba
      go_wp2_with fail
      refine hK.out _ _ (hya) (fun hS1 => ?_)
      clear hK K
      try simp only [Act.put, pkA, pkB, pkC]
      refine wpAnyH_ready (rs := [5, 16]) (by kernel_rfl) (by simp) ?_
      refine AllReadyH.cons (o := ⟨some 12, _, _, _, _, _⟩) rfl (fun K hK => ?_) ?_
      ·
        go_simp
        refine (H2.out _).mono ?_
        rintro e wb ⟨rfl, rfl⟩
        go_wp2_with fail
        refine hK.out _ _ (hS1) (fun hS2 => ?_)
        clear hK K
        try simp only [Act.put, pkA, pkB, pkC]
        refine pkT 6 13 hS2 ?_
        try simp only [Act.put, pkA, pkB, pkC]
        refine wpAnyH_ready (rs := [9, 16]) (by kernel_rfl) (by simp) ?_
        refine AllReadyH.cons (o := ⟨some 16, _, _, _, _, _⟩) rfl (fun K hK => ?_) ?_
        ·
          go_simp
          refine (H3.out _).mono ?_
          rintro e wb ⟨rfl, rfl⟩
          go_wp2_with fail
          refine hK.out _ _ (hS2) (fun hS3 => ?_)
          clear hK K
          try simp only [Act.put, pkA, pkB, pkC]
          refine wpAnyH_ready (rs := [14, 16]) (by kernel_rfl) (by simp) ?_
          refine AllReadyH.cons (o := ⟨some 21, _, _, _, _, _⟩) rfl (fun K hK => ?_) ?_
          ·
            go_simp
            refine (H4.out _ hS3).mono ?_
            rintro e wz ⟨sl, rfl, hO, hbz⟩
            have hyz := Hk.andThen hS3 hbz
            try have hG := hG.on hbz
            go_wp2_with fail
            refine hK.out _ _ (hyz) (fun hS4 => ?_)
            clear hK K
            try simp only [Act.put, pkA, pkB, pkC]
            refine pkT 15 22 hS4 ?_
            try simp only [Act.put, pkA, pkB, pkC]
            refine wpAnyH_ready (rs := [16]) (by kernel_rfl) (by simp) ?_
            refine AllReadyH.cons (o := ⟨some 5, _, _, _, _, _⟩) rfl (fun K hK => ?_) AllReadyH.nil
            go_simp
            obtain ⟨W5, g5, e1, e2, hG, hB5, hb5⟩ := got_new hS4
            first | rw [e1, e2] | (rw [show (World.alloc W0 _).drew = W5 from e1]; rw [show W0.heap.size = g5 from e2])
            try have hO := hO.later hb5
            refine hK.out _ _ (hB5) (fun hS5 => ?_)
            clear hK K
            try simp only [Act.put, pkA, pkB, pkC]
            refine wpAnyH_ready (rs := [17]) (by kernel_rfl) (by simp) ?_
            refine AllReadyH.cons (o := ⟨none, _, _, _, _, _⟩) rfl (fun K hK => ?_) AllReadyH.nil
            have x0 := hG.blk.cell 0
            have x1 := hG.blk.cell 1
            have x2 := hG.blk.cell 2
            have x3 := hG.blk.cell 3
            have x4 := hG.blk.cell 4
            have x5 := hG.blk.cell 5
            have x6 := hG.blk.cell 6
            have x7 := hG.blk.cell 7
            have x8 := hG.blk.cell 8
            have x9 := hG.blk.cell 9
            have x10 := hG.blk.cell 10
            have x11 := hG.blk.cell 11
            have x12 := hG.blk.cell 12
            have x13 := hG.blk.cell 13
            have x14 := hG.blk.cell 14
            have xf := hG.blk.frozen
            have HX := Lib.hid (Stage.start (i := idS t1) (kd := 1 + (t7 : Int)) (pr := (t5 : Int)) (cl := p.closes) HA.out.1 HA.out.2.1 HA.out.2.2.1 HA.out.2.2.2.1 HA.out.2.2.2.2 hS5 hG hO)
            go_simp
            refine hK.out _ _ (HX.out.2) (fun hS6 => ?_)
            clear hK K
            try simp only [Act.put, pkA, pkB, pkC]
            refine wpAnyH_done (by kernel_rfl) ?_ _
            go_wp2_with fail
            go_meet
            exact ⟨_, _, rfl, Lib.hid HX.out.1⟩
          refine AllReadyH.cons (o := ⟨some 5, _, _, _, _, _⟩) rfl (fun K hK => ?_) AllReadyH.nil
          go_simp
          obtain ⟨W5, g5, e1, e2, hG, hB5, hb5⟩ := got_new hS3
          first | rw [e1, e2] | (rw [show (World.alloc W0 _).drew = W5 from e1]; rw [show W0.heap.size = g5 from e2])
          try have hO := hO.later hb5
          refine hK.out _ _ (hB5) (fun hS4 => ?_)
          clear hK K
          try simp only [Act.put, pkA, pkB, pkC]
          refine wpAnyH_ready (rs := [14]) (by kernel_rfl) (by simp) ?_
          refine AllReadyH.cons (o := ⟨some 21, _, _, _, _, _⟩) rfl (fun K hK => ?_) AllReadyH.nil
          go_simp
          refine (H4.out _ hS4).mono ?_
          rintro e wz ⟨sl, rfl, hO, hbz⟩
          have hyz := Hk.andThen hS4 hbz
          try have hG := hG.on hbz
          go_wp2_with fail
          refine hK.out _ _ (hyz) (fun hS5 => ?_)
          clear hK K
          try simp only [Act.put, pkA, pkB, pkC]
          refine pkT 15 22 hS5 ?_
          try simp only [Act.put, pkA, pkB, pkC]
          refine wpAnyH_ready (rs := [17]) (by kernel_rfl) (by simp) ?_
          refine AllReadyH.cons (o := ⟨none, _, _, _, _, _⟩) rfl (fun K hK => ?_) AllReadyH.nil
          have x0 := hG.blk.cell 0
          have x1 := hG.blk.cell 1
          have x2 := hG.blk.cell 2
          have x3 := hG.blk.cell 3
          have x4 := hG.blk.cell 4
          have x5 := hG.blk.cell 5
          have x6 := hG.blk.cell 6
          have x7 := hG.blk.cell 7
          have x8 := hG.blk.cell 8
          have x9 := hG.blk.cell 9
          have x10 := hG.blk.cell 10
          have x11 := hG.blk.cell 11
          have x12 := hG.blk.cell 12
          have x13 := hG.blk.cell 13
          have x14 := hG.blk.cell 14
          have xf := hG.blk.frozen
          have HX := Lib.hid (Stage.start (i := idS t1) (kd := 1 + (t7 : Int)) (pr := (t5 : Int)) (cl := p.closes) HA.out.1 HA.out.2.1 HA.out.2.2.1 HA.out.2.2.2.1 HA.out.2.2.2.2 hS5 hG hO)
          go_simp
          refine hK.out _ _ (HX.out.2) (fun hS6 => ?_)
          clear hK K
          try simp only [Act.put, pkA, pkB, pkC]
          refine wpAnyH_done (by kernel_rfl) ?_ _
          go_wp2_with fail
          go_meet
          exact ⟨_, _, rfl, Lib.hid HX.out.1⟩
        refine AllReadyH.cons (o := ⟨some 5, _, _, _, _, _⟩) rfl (fun K hK => ?_) AllReadyH.nil
        go_simp
        obtain ⟨W5, g5, e1, e2, hG, hB5, hb5⟩ := got_new hS2
        first | rw [e1, e2] | (rw [show (World.alloc W0 _).drew = W5 from e1]; rw [show W0.heap.size = g5 from e2])
        try have hO := hO.later hb5
        refine hK.out _ _ (hB5) (fun hS3 => ?_)
        clear hK K
        try simp only [Act.put, pkA, pkB, pkC]
        refine wpAnyH_ready (rs := [9]) (by kernel_rfl) (by simp) ?_
        refine AllReadyH.cons (o := ⟨some 16, _, _, _, _, _⟩) rfl (fun K hK => ?_) AllReadyH.nil
        go_simp
        refine (H3.out _).mono ?_
        rintro e wb ⟨rfl, rfl⟩
        go_wp2_with fail
        refine hK.out _ _ (hS3) (fun hS4 => ?_)
        clear hK K
        try simp only [Act.put, pkA, pkB, pkC]
        refine wpAnyH_ready (rs := [14]) (by kernel_rfl) (by simp) ?_
        refine AllReadyH.cons (o := ⟨some 21, _, _, _, _, _⟩) rfl (fun K hK => ?_) AllReadyH.nil
        go_simp
        refine (H4.out _ hS4).mono ?_
        rintro e wz ⟨sl, rfl, hO, hbz⟩
        have hyz := Hk.andThen hS4 hbz
        try have hG := hG.on hbz
        go_wp2_with fail
        refine hK.out _ _ (hyz) (fun hS5 => ?_)
        clear hK K
        try simp only [Act.put, pkA, pkB, pkC]
        refine pkT 15 22 hS5 ?_
        try simp only [Act.put, pkA, pkB, pkC]
        refine wpAnyH_ready (rs := [17]) (by kernel_rfl) (by simp) ?_
        refine AllReadyH.cons (o := ⟨none, _, _, _, _, _⟩) rfl (fun K hK => ?_) AllReadyH.nil
        have x0 := hG.blk.cell 0
        have x1 := hG.blk.cell 1
        have x2 := hG.blk.cell 2
        have x3 := hG.blk.cell 3
        have x4 := hG.blk.cell 4
        have x5 := hG.blk.cell 5
        have x6 := hG.blk.cell 6
        have x7 := hG.blk.cell 7
        have x8 := hG.blk.cell 8
        have x9 := hG.blk.cell 9
        have x10 := hG.blk.cell 10
        have x11 := hG.blk.cell 11
        have x12 := hG.blk.cell 12
        have x13 := hG.blk.cell 13
        have x14 := hG.blk.cell 14
        have xf := hG.blk.frozen
        have HX := Lib.hid (Stage.start (i := idS t1) (kd := 1 + (t7 : Int)) (pr := (t5 : Int)) (cl := p.closes) HA.out.1 HA.out.2.1 HA.out.2.2.1 HA.out.2.2.2.1 HA.out.2.2.2.2 hS5 hG hO)
        go_simp
        refine hK.out _ _ (HX.out.2) (fun hS6 => ?_)
        clear hK K
        try simp only [Act.put, pkA, pkB, pkC]
        refine wpAnyH_done (by kernel_rfl) ?_ _
        go_wp2_with fail
        go_meet
        exact ⟨_, _, rfl, Lib.hid HX.out.1⟩
      refine AllReadyH.cons (o := ⟨some 5, _, _, _, _, _⟩) rfl (fun K hK => ?_) AllReadyH.nil
      go_simp
      obtain ⟨W5, g5, e1, e2, hG, hB5, hb5⟩ := got_new hS1
      first | rw [e1, e2] | (rw [show (World.alloc W0 _).drew = W5 from e1]; rw [show W0.heap.size = g5 from e2])
      try have hO := hO.later hb5
      refine hK.out _ _ (hB5) (fun hS2 => ?_)
      clear hK K
      try simp only [Act.put, pkA, pkB, pkC]
      refine wpAnyH_ready (rs := [5]) (by kernel_rfl) (by simp) ?_
      refine AllReadyH.cons (o := ⟨some 12, _, _, _, _, _⟩) rfl (fun K hK => ?_) AllReadyH.nil
      go_simp
      refine (H2.out _).mono ?_
      rintro e wb ⟨rfl, rfl⟩
      go_wp2_with fail
      refine hK.out _ _ (hS2) (fun hS3 => ?_)
      clear hK K
      try simp only [Act.put, pkA, pkB, pkC]
      refine pkT 6 13 hS3 ?_
      try simp only [Act.put, pkA, pkB, pkC]
      refine wpAnyH_ready (rs := [9]) (by kernel_rfl) (by simp) ?_
      refine AllReadyH.cons (o := ⟨some 16, _, _, _, _, _⟩) rfl (fun K hK => ?_) AllReadyH.nil
      go_simp
      refine (H3.out _).mono ?_
      rintro e wb ⟨rfl, rfl⟩
      go_wp2_with fail
      refine hK.out _ _ (hS3) (fun hS4 => ?_)
      clear hK K
      try simp only [Act.put, pkA, pkB, pkC]
      refine wpAnyH_ready (rs := [14]) (by kernel_rfl) (by simp) ?_
      refine AllReadyH.cons (o := ⟨some 21, _, _, _, _, _⟩) rfl (fun K hK => ?_) AllReadyH.nil
      go_simp
      refine (H4.out _ hS4).mono ?_
      rintro e wz ⟨sl, rfl, hO, hbz⟩
      have hyz := Hk.andThen hS4 hbz
      try have hG := hG.on hbz
      go_wp2_with fail
      refine hK.out _ _ (hyz) (fun hS5 => ?_)
      clear hK K
      try simp only [Act.put, pkA, pkB, pkC]
      refine pkT 15 22 hS5 ?_
      try simp only [Act.put, pkA, pkB, pkC]
      refine wpAnyH_ready (rs := [17]) (by kernel_rfl) (by simp) ?_
      refine AllReadyH.cons (o := ⟨none, _, _, _, _, _⟩) rfl (fun K hK => ?_) AllReadyH.nil
      have x0 := hG.blk.cell 0
      have x1 := hG.blk.cell 1
      have x2 := hG.blk.cell 2
      have x3 := hG.blk.cell 3
      have x4 := hG.blk.cell 4
      have x5 := hG.blk.cell 5
      have x6 := hG.blk.cell 6
      have x7 := hG.blk.cell 7
      have x8 := hG.blk.cell 8
      have x9 := hG.blk.cell 9
      have x10 := hG.blk.cell 10
      have x11 := hG.blk.cell 11
      have x12 := hG.blk.cell 12
      have x13 := hG.blk.cell 13
      have x14 := hG.blk.cell 14
      have xf := hG.blk.frozen
      have HX := Lib.hid (Stage.start (i := idS t1) (kd := 1 + (t7 : Int)) (pr := (t5 : Int)) (cl := p.closes) HA.out.1 HA.out.2.1 HA.out.2.2.1 HA.out.2.2.2.1 HA.out.2.2.2.2 hS5 hG hO)
      go_simp
      refine hK.out _ _ (HX.out.2) (fun hS6 => ?_)
      clear hK K
      try simp only [Act.put, pkA, pkB, pkC]
      refine wpAnyH_done (by kernel_rfl) ?_ _
      go_wp2_with fail
      go_meet
      exact ⟨_, _, rfl, Lib.hid HX.out.1⟩
    refine AllReadyH.cons (o := ⟨some 5, _, _, _, _, _⟩) rfl (fun K hK => ?_) AllReadyH.nil
    go_simp
    obtain ⟨W5, g5, e1, e2, hG, hB5, hb5⟩ := got_new hS0
    first | rw [e1, e2] | (rw [show (World.alloc W0 _).drew = W5 from e1]; rw [show W0.heap.size = g5 from e2])
    try have hO := hO.later hb5
    refine hK.out _ _ (hB5) (fun hS1 => ?_)
    clear hK K
    try simp only [Act.put, pkA, pkB, pkC]
    refine wpAnyH_ready (rs := [1]) (by kernel_rfl) (by simp) ?_
    refine AllReadyH.cons (o := ⟨some 8, _, _, _, _, _⟩) rfl (fun K hK => ?_) AllReadyH.nil
    go_simp
    refine (H1.out _).mono ?_
    rintro e wa ⟨rfl, hba⟩
    have hya := Hk.andThen hS1 hba
    try have hG := hG.on hba
    go_wp2_with fail
    refine hK.out _ _ (hya) (fun hS2 => ?_)
    clear hK K
    try simp only [Act.put, pkA, pkB, pkC]
    refine wpAnyH_ready (rs := [5]) (by kernel_rfl) (by simp) ?_
    refine AllReadyH.cons (o := ⟨some 12, _, _, _, _, _⟩) rfl (fun K hK => ?_) AllReadyH.nil
    go_simp
    refine (H2.out _).mono ?_
    rintro e wb ⟨rfl, rfl⟩
    go_wp2_with fail
    refine hK.out _ _ (hS2) (fun hS3 => ?_)
    clear hK K
    try simp only [Act.put, pkA, pkB, pkC]
    refine pkT 6 13 hS3 ?_
    try simp only [Act.put, pkA, pkB, pkC]
    refine wpAnyH_ready (rs := [9]) (by kernel_rfl) (by simp) ?_
    refine AllReadyH.cons (o := ⟨some 16, _, _, _, _, _⟩) rfl (fun K hK => ?_) AllReadyH.nil
    go_simp
    refine (H3.out _).mono ?_
    rintro e wb ⟨rfl, rfl⟩
    go_wp2_with fail
    refine hK.out _ _ (hS3) (fun hS4 => ?_)
    clear hK K
    try simp only [Act.put, pkA, pkB, pkC]
    refine wpAnyH_ready (rs := [14]) (by kernel_rfl) (by simp) ?_
    refine AllReadyH.cons (o := ⟨some 21, _, _, _, _, _⟩) rfl (fun K hK => ?_) AllReadyH.nil
    go_simp
    refine (H4.out _ hS4).mono ?_
    rintro e wz ⟨sl, rfl, hO, hbz⟩
    have hyz := Hk.andThen hS4 hbz
    try have hG := hG.on hbz
    go_wp2_with fail
    refine hK.out _ _ (hyz) (fun hS5 => ?_)
    clear hK K
    try simp only [Act.put, pkA, pkB, pkC]
    refine pkT 15 22 hS5 ?_
    try simp only [Act.put, pkA, pkB, pkC]
    refine wpAnyH_ready (rs := [17]) (by kernel_rfl) (by simp) ?_
    refine AllReadyH.cons (o := ⟨none, _, _, _, _, _⟩) rfl (fun K hK => ?_) AllReadyH.nil
    have x0 := hG.blk.cell 0
    have x1 := hG.blk.cell 1
    have x2 := hG.blk.cell 2
    have x3 := hG.blk.cell 3
    have x4 := hG.blk.cell 4
    have x5 := hG.blk.cell 5
    have x6 := hG.blk.cell 6
    have x7 := hG.blk.cell 7
    have x8 := hG.blk.cell 8
    have x9 := hG.blk.cell 9
    have x10 := hG.blk.cell 10
    have x11 := hG.blk.cell 11
    have x12 := hG.blk.cell 12
    have x13 := hG.blk.cell 13
    have x14 := hG.blk.cell 14
    have xf := hG.blk.frozen
    have HX := Lib.hid (Stage.start (i := idS t1) (kd := 1 + (t7 : Int)) (pr := (t5 : Int)) (cl := p.closes) HA.out.1 HA.out.2.1 HA.out.2.2.1 HA.out.2.2.2.1 HA.out.2.2.2.2 hS5 hG hO)
    go_simp
    refine hK.out _ _ (HX.out.2) (fun hS6 => ?_)
    clear hK K
    try simp only [Act.put, pkA, pkB, pkC]
    refine wpAnyH_done (by kernel_rfl) ?_ _
    go_wp2_with fail
    go_meet
    exact ⟨_, _, rfl, Lib.hid HX.out.1⟩
  case rest =>
    obtain ⟨g5, sl, rfl, hS⟩ := hcut
    apply_assumption
    exact at2 w _ p l g2 g4 g5 t1 (idS t1) ⟨#[]⟩ ⟨#[]⟩ (1 + (t7 : Int)) (t5 : Int) 0 p.closes (scopeOf p.scope) sl _ _ _ _ _ _ _ _ _ _ _ _ _ _ _ _ _ _ _ _ _ _ _ _ _ _ _ _ _ _ _ _ _ _ _ _ _ _ _ _ _ _ _ _ _ _ _ _ _ _ _ _ _ _ _ _ _ _ _ _ _ _ _ _ _ _ _ _ _ _ _ _ _ _ _ _ _ _ _ _ _ _ _ _ _ _ _ _ _ _ _ _ _ _ _ _ _ _ _ _ _ _ _ _ _ _ _ _ _ _ _ _ _ _ _ _ _ _ _ _ _ _ _ _ _ _ _ _ _ _ _ _ _ _ _ _ _ _ _ _ _ _ _ _ _ _ _ _ _ _ _ _ _ _ hS.out HF.out (nearP p t1) rfl rfl rfl HNr.out HH.out.1 HH.out.2
end Go.Proofs.YtljmddjlnlmenaaGreat.Py
end
section
namespace Go.Proofs.YtljmddjlnlmenaaGreat.Py
open Go.ChangeShapes Go.WideShapes Go.ChangeAt Go.RowKit
open Kd (Kind Row Own Cells Fit Agree Deep Lst kStr)
open Ap (Scp Prt Tir Prm kPrt kTir kPrm row_Prt row_Tir)
open Pr (promoB headB kindB blankB)
open Mv (Only)
set_option maxRecDepth 1000000 in
set_option maxHeartbeats 8000000 in
theorem promo_near (p : Prm) (l : Prm.Lay) (a : Int) (w : World) (h : Ap.Prm.Holds w (· < w.heap.size) p l) (hS : Pr.PrmSmall p l) :
    Calls Tryz.prog 49 #[.agg #[.string p.id, .int .i64 p.kind, .int .i64 p.priority, .string p.group, .string p.code, .bool p.closes, .slice l.scope.skus.A l.scope.skus.n l.scope.skus.c, .slice l.scope.cats.A l.scope.cats.n l.scope.cats.c, .int .i64 p.least, .int .i64 p.rate, .int .i64 p.amount, .int .i64 p.buy, .int .i64 p.get, .slice l.parts.A l.parts.n l.parts.c, .slice l.tiers.A l.tiers.n l.tiers.c], .int .i64 a] w fun e w' => PlayedAs w (modN a 10) (nearP p (modN a 10)) e w' := by
  obtain ⟨W1, hW1⟩ : ∃ W1, w.alloc (.cells #[.string p.id, .int .i64 p.kind, .int .i64 p.priority, .string p.group, .string p.code, .bool p.closes, .slice l.scope.skus.A l.scope.skus.n l.scope.skus.c, .slice l.scope.cats.A l.scope.cats.n l.scope.cats.c, .int .i64 p.least, .int .i64 p.rate, .int .i64 p.amount, .int .i64 p.buy, .int .i64 p.get, .slice l.parts.A l.parts.n l.parts.c, .slice l.tiers.A l.tiers.n l.tiers.c] 28) = W1 := ⟨_, rfl⟩
  obtain ⟨W0, hW0⟩ : ∃ W0, W1.alloc (.cells #[.string ⟨#[]⟩, .int .i64 0, .int .i64 0, .string ⟨#[]⟩, .string ⟨#[]⟩, .bool false, .slice none 0 0, .slice none 0 0, .int .i64 0, .int .i64 0, .int .i64 0, .int .i64 0, .int .i64 0, .slice none 0 0, .slice none 0 0] 28) = W0 := ⟨_, rfl⟩
  have s1 : W1.heap.size = w.heap.size + 1 := by rw [<- hW1]; simp
  have hsrc : Qu.Blk W0 w.heap.size 28 #[.string p.id, .int .i64 p.kind, .int .i64 p.priority, .string p.group, .string p.code, .bool p.closes, .slice l.scope.skus.A l.scope.skus.n l.scope.skus.c, .slice l.scope.cats.A l.scope.cats.n l.scope.cats.c, .int .i64 p.least, .int .i64 p.rate, .int .i64 p.amount, .int .i64 p.buy, .int .i64 p.get, .slice l.parts.A l.parts.n l.parts.c, .slice l.tiers.A l.tiers.n l.tiers.c] := by rw [<- hW0, <- hW1]; exact (Qu.Blk.new w _ _).alloc _
  have hres : Qu.Blk W0 (w.heap.size + 1) 28 #[.string ⟨#[]⟩, .int .i64 0, .int .i64 0, .string ⟨#[]⟩, .string ⟨#[]⟩, .bool false, .slice none 0 0, .slice none 0 0, .int .i64 0, .int .i64 0, .int .i64 0, .int .i64 0, .int .i64 0, .slice none 0 0, .slice none 0 0] := by rw [<- hW0, <- s1]; exact Qu.Blk.new W1 _ _
  have hb0 : Below w.heap.size w W0 := by rw [<- hW0, <- hW1]; exact ((Below.refl _ _).alloc (Nat.le_refl _) _).alloc (by simp) _
  have HA := Lib.hid (And.intro hsrc (And.intro hres hb0))
  have HH := Lib.hid (And.intro h hS)
  clear hsrc hres hb0 h hS
  go_enter Tryz.func49, Tryz.ntmps49
  go_upto_region 0 with (fail)
  go_cut [2, 4] (fun s2 s4 wx => s2 = .pointer (some ⟨w.heap.size, 0, none⟩) /\ s4 = .pointer (some ⟨w.heap.size + 1, 0, none⟩) /\ wx = W0)
  case first =>
    go_wp2_with fail
    go_meet
    exact ⟨by trivial, by trivial, by trivial⟩
  case rest =>
    obtain ⟨rfl, rfl, rfl⟩ := hcut
    apply_assumption
    exact at1 w _ p l w.heap.size (w.heap.size + 1) a _ _ _ _ _ _ _ _ _ _ _ _ _ _ _ _ _ _ _ _ _ _ _ _ _ _ _ _ _ _ _ _ _ _ _ _ _ _ _ _ _ _ _ _ _ _ _ _ _ _ _ _ _ _ _ _ _ _ _ _ _ _ _ _ _ _ _ _ _ _ _ _ _ _ _ _ _ _ _ _ _ _ _ _ _ _ _ _ _ _ _ _ _ _ _ _ _ _ _ _ _ _ _ _ _ _ _ _ _ _ _ _ _ _ _ _ _ _ _ _ _ _ _ _ _ _ _ _ _ _ _ _ _ _ _ _ _ _ _ _ _ _ _ _ _ _ _ _ _ _ _ _ _ _ HA.out.1 HA.out.2.1 (Nat.le_refl _) (by omega) HA.out.2.2 HH.out.1 HH.out.2
end Go.Proofs.YtljmddjlnlmenaaGreat.Py
end
