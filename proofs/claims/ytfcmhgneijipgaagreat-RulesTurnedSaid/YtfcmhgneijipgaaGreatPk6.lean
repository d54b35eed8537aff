/- The landed namesRise: zones' names, rates' categories. (made by wip/gen-rises.py) -/
import Derived.Deep.RegionHeld3
import Derived.Test.YtfcmhgneijipgaaGreatPk4
import Derived.Test.YtfcmhgneijipgaaGreatPk5

set_option maxRecDepth 100000
set_option linter.unusedVariables false
namespace Go.Proofs.YtfcmhgneijipgaaGreat.Ru
open Go.ChangeShapes Go.WideShapes Go.ChangeAt Go.RowKit
open Ap (CtR Zon Txs Shp Pol Rls kCtR kZon row_CtR row_Zon)
open Kd (Row Lst Sl Fit Agree kInt row_int)
set_option maxHeartbeats 4000000 in
theorem risesR_any (A : Option Addr) (n c : Nat) (xs : List CtR) (w : World) (h : Row kCtR w (· < w.heap.size) A n xs) (hn : n ≤ 1000000000000) :
    Calls Tryz.prog 78 #[.slice A n c, .func (.func 79) #[] #[]] w fun e w' => e = .returned (.bool (namesB CtR.cat xs)) ∧ Below w.heap.size w w' := by
  have HR := Lib.hid h
  have HL := Lib.hid h.len
  clear h
  go_enter Tryz.func78, Tryz.ntmps78
  go_wp2
  go_loopw [9] (fun s9 wr => ∃ k : Nat, s9 = .int .i64 k ∧ k ≤ n ∧ Hid (Below w.heap.size w wr ∧ NUp CtR.cat xs k)) (fun s9 _ => n - (intOf s9).toNat)
  case atStart => exact ⟨0, rfl, by omega, Lib.hid ⟨Below.refl _ _, NUp.begin _ _⟩⟩
  case round =>
    obtain ⟨k, rfl, hk, HU⟩ := hrel
    have k0 : (0 : Int) ≤ (k : Int) := by omega
    by_cases hlt : k < n
    · have k1 : (k : Int) < (n : Int) := by omega
      obtain ⟨x, hx⟩ := HR.out.get hlt
      obtain ⟨g, o, rfl, _, hgl, hok, a0, a1⟩ := row_CtR (HR.out.below HU.out.1 (Nat.le_refl _)) hx
      obtain ⟨W2, hW2⟩ : ∃ W2, wr.alloc (.cells #[.string x.cat, .int .i64 x.rate] 53) = W2 := ⟨_, rfl⟩
      have hbw : Below wr.heap.size wr W2 := by rw [← hW2]; exact (Below.refl _ _).alloc (Nat.le_refl _) _
      have hbx : Qu.Blk W2 wr.heap.size 53 #[.string x.cat, .int .i64 x.rate] := by rw [← hW2]; exact Qu.Blk.new wr _ _
      have HB2 := Lib.hid (HU.out.1.trans (hbw.mono HU.out.1.size))
      have hg2 : g < W2.heap.size := Nat.lt_of_lt_of_le hgl hbw.size
      have HN : Hid (∀ (hb : Sr.name x.cat = true) (hr : ∀ y, 0 < k → xs[k - 1]? = some y → Sr.lt y.cat x.cat = true), NUp CtR.cat xs (k + 1)) := Lib.hid fun hb hr => HU.out.2.next hx hb hr
      have N1 : Hid (∀ W, Below W2.heap.size W2 W → Calls Tryz.prog 79 #[.agg #[.string x.cat, .int .i64 x.rate]] W fun e w' => e = .returned (.string x.cat) ∧ Below W2.heap.size W2 w') := Lib.hid fun W hW => (rateName_any x W).mono fun e w' he => ⟨he.1, Hk.andThen hW he.2⟩
      have N2 := Lib.hid (fun W => Gd.name_any x.cat W hok.cat)
      have x0 : ∀ u, Below W2.heap.size W2 u → u.cell? ⟨wr.heap.size, 0, none⟩ = some (.string x.cat) := fun u hu => (hbx.below hu).cell 0
      have x1 : ∀ u, Below W2.heap.size W2 u → u.cell? ⟨wr.heap.size, 1, none⟩ = some (.int .i64 x.rate) := fun u hu => (hbx.below hu).cell 1
      have HX := Lib.hid hx
      have hgw := Lib.hid (And.intro hbw hg2)
      clear hok hbx hbw hg2 hgl hx
      go_wp2_with fail
      try rw [hW2]
      clear hW2 a0 a1
      cases n1 : Sr.name x.cat with
      | false =>
        rw [n1] at N2
        have HG := Lib.hid (names_bad (f := CtR.cat) HX.out n1)
        clear n1 HN
        refine wp_region_held_drew (S := fun u => Below W2.heap.size W2 u) (by kernel_rfl) ((Below.refl _ _).drew) (fun hS0 => ?_)
        refine pkT 0 14 hS0 ?_
        try simp only [Act.put, pkA, pkB, pkC]
        refine pkT 1 15 hS0 ?_
        try simp only [Act.put, pkA, pkB, pkC]
        refine wpAnyH_ready (rs := [2]) (by kernel_rfl) (by simp) ?_
        refine AllReadyH.cons (o := ⟨some 16, _, _, _, _, _⟩) rfl (fun K hK => ?_) AllReadyH.nil
        go_simp
        refine (N1.out _ hS0).mono ?_
        rintro e wa ⟨rfl, ha⟩
        go_wp2_with fail
        refine hK.out _ _ (ha) (fun hS1 => ?_)
        clear hK K
        try simp only [Act.put, pkA, pkB, pkC]
        refine wpAnyH_ready (rs := [3]) (by kernel_rfl) (by simp) ?_
        refine AllReadyH.cons (o := ⟨some 17, _, _, _, _, _⟩) rfl (fun K hK => ?_) AllReadyH.nil
        go_simp
        refine (N2.out _).mono ?_
        rintro e wb ⟨rfl, rfl⟩
        go_wp2_with fail
        refine hK.out _ _ (hS1) (fun hS2 => ?_)
        clear hK K
        try simp only [Act.put, pkA, pkB, pkC]
        refine pkT 4 18 hS2 ?_
        try simp only [Act.put, pkA, pkB, pkC]
        refine pkT 5 19 hS2 ?_
        try simp only [Act.put, pkA, pkB, pkC]
        refine pkU 6 20 hS2 ?_
        try simp only [Act.put, pkA, pkB, pkC]
        refine pkU 7 21 hS2 ?_
        try simp only [Act.put, pkA, pkB, pkC]
        refine pkU 8 22 hS2 ?_
        try simp only [Act.put, pkA, pkB, pkC]
        refine pkU 9 23 hS2 ?_
        try simp only [Act.put, pkA, pkB, pkC]
        refine pkU 10 24 hS2 ?_
        try simp only [Act.put, pkA, pkB, pkC]
        refine pkU 11 25 hS2 ?_
        try simp only [Act.put, pkA, pkB, pkC]
        refine pkU 12 26 hS2 ?_
        try simp only [Act.put, pkA, pkB, pkC]
        refine pkU 13 27 hS2 ?_
        try simp only [Act.put, pkA, pkB, pkC]
        refine pkU 14 28 hS2 ?_
        try simp only [Act.put, pkA, pkB, pkC]
        refine pkU 15 29 hS2 ?_
        try simp only [Act.put, pkA, pkB, pkC]
        refine pkU 16 30 hS2 ?_
        try simp only [Act.put, pkA, pkB, pkC]
        refine pkU 17 31 hS2 ?_
        try simp only [Act.put, pkA, pkB, pkC]
        refine pkU 18 32 hS2 ?_
        try simp only [Act.put, pkA, pkB, pkC]
        refine pkU 19 33 hS2 ?_
        try simp only [Act.put, pkA, pkB, pkC]
        refine pkU 20 34 hS2 ?_
        try simp only [Act.put, pkA, pkB, pkC]
        refine pkT 21 35 hS2 ?_
        try simp only [Act.put, pkA, pkB, pkC]
        refine wpAnyH_done (by kernel_rfl) ?_ _
        have HB9 := Lib.hid (HB2.out.trans (Below.mono hS2 HB2.out.size))
        clear x0 x1
        go_wp2
        go_ret
        exact ⟨by rw [HG.out]; rfl, HB9.out⟩
      | true =>
        rw [n1] at N2
        by_cases hz : k = 0
        · have k2 : ¬ (0 : Int) < (k : Int) := by omega
          have HN := Lib.hid (HN.out n1 (fun y h0 => by omega))
          clear n1
          refine wp_region_held_drew (S := fun u => Below W2.heap.size W2 u) (by kernel_rfl) ((Below.refl _ _).drew) (fun hS0 => ?_)
          refine pkT 0 14 hS0 ?_
          try simp only [Act.put, pkA, pkB, pkC]
          refine pkT 1 15 hS0 ?_
          try simp only [Act.put, pkA, pkB, pkC]
          refine wpAnyH_ready (rs := [2]) (by kernel_rfl) (by simp) ?_
          refine AllReadyH.cons (o := ⟨some 16, _, _, _, _, _⟩) rfl (fun K hK => ?_) AllReadyH.nil
          go_simp
          refine (N1.out _ hS0).mono ?_
          rintro e wa ⟨rfl, ha⟩
          go_wp2_with fail
          refine hK.out _ _ (ha) (fun hS1 => ?_)
          clear hK K
          try simp only [Act.put, pkA, pkB, pkC]
          refine wpAnyH_ready (rs := [3]) (by kernel_rfl) (by simp) ?_
          refine AllReadyH.cons (o := ⟨some 17, _, _, _, _, _⟩) rfl (fun K hK => ?_) AllReadyH.nil
          go_simp
          refine (N2.out _).mono ?_
          rintro e wb ⟨rfl, rfl⟩
          go_wp2_with fail
          refine hK.out _ _ (hS1) (fun hS2 => ?_)
          clear hK K
          try simp only [Act.put, pkA, pkB, pkC]
          refine pkT 4 18 hS2 ?_
          try simp only [Act.put, pkA, pkB, pkC]
          refine pkT 5 19 hS2 ?_
          try simp only [Act.put, pkA, pkB, pkC]
          refine pkT 6 20 hS2 ?_
          try simp only [Act.put, pkA, pkB, pkC]
          refine pkT 7 21 hS2 ?_
          try simp only [Act.put, pkA, pkB, pkC]
          refine pkT 8 22 hS2 ?_
          try simp only [Act.put, pkA, pkB, pkC]
          refine pkU 9 23 hS2 ?_
          try simp only [Act.put, pkA, pkB, pkC]
          refine pkU 10 24 hS2 ?_
          try simp only [Act.put, pkA, pkB, pkC]
          refine pkU 11 25 hS2 ?_
          try simp only [Act.put, pkA, pkB, pkC]
          refine pkU 12 26 hS2 ?_
          try simp only [Act.put, pkA, pkB, pkC]
          refine pkU 13 27 hS2 ?_
          try simp only [Act.put, pkA, pkB, pkC]
          refine pkU 14 28 hS2 ?_
          try simp only [Act.put, pkA, pkB, pkC]
          refine pkU 15 29 hS2 ?_
          try simp only [Act.put, pkA, pkB, pkC]
          refine pkU 16 30 hS2 ?_
          try simp only [Act.put, pkA, pkB, pkC]
          refine pkU 17 31 hS2 ?_
          try simp only [Act.put, pkA, pkB, pkC]
          refine pkU 18 32 hS2 ?_
          try simp only [Act.put, pkA, pkB, pkC]
          refine pkU 19 33 hS2 ?_
          try simp only [Act.put, pkA, pkB, pkC]
          refine pkT 20 34 hS2 ?_
          try simp only [Act.put, pkA, pkB, pkC]
          refine pkT 21 35 hS2 ?_
          try simp only [Act.put, pkA, pkB, pkC]
          refine wpAnyH_done (by kernel_rfl) ?_ _
          have HB9 := Lib.hid (HB2.out.trans (Below.mono hS2 HB2.out.size))
          have HU9 := Lib.hid (And.intro HB9.out HN.out)
          clear x0 x1
          go_wp2
          go_roundw
          case rel => exact ⟨k + 1, by go_num, by omega, HU9⟩
          case measure => simp [intOf]; omega
        · have k2 : (0 : Int) < (k : Int) := by omega
          have k3 : 0 < k := by omega
          obtain ⟨y, hy⟩ := HR.out.get (k := k - 1) (by omega)
          obtain ⟨g', o', e0, _, hgl', hok', b0, b1⟩ := row_CtR (HR.out.below HU.out.1 (Nat.le_refl _)) hy
          injection e0 with e0
          injection e0 with e1 e2
          subst e1 e2
          have hg3 := hgw.out.2
          obtain ⟨p, hp⟩ : ∃ p : Nat, k - 1 = p := ⟨_, rfl⟩
          have p1 : (k : Int) - 1 = (p : Int) := by omega
          have p2 : IntKind.i64.wrap ((k : Int) - 1) = (p : Int) := by rw [IntWalk.i64_in _ (by omega)]; omega
          have p3 : (p : Int) < (n : Int) := by omega
          have p5 : IntKind.i64.wrap (p : Int) = (p : Int) := IntWalk.i64_in _ (by omega)
          have p4 : (0 : Int) ≤ (p : Int) := by omega
          rw [hp] at b0 b1
          have c0 : W2.cell? ⟨g, o + p * 2, none⟩ = some (.string y.cat) := (hgw.out.1.cell (p := ⟨g, _, none⟩) hgl').trans b0
          have c1 : W2.cell? ⟨g, o + p * 2 + 1, none⟩ = some (.int .i64 y.rate) := (hgw.out.1.cell (p := ⟨g, _, none⟩) hgl').trans b1
          have y0 : ∀ u, Below W2.heap.size W2 u → u.cell? ⟨g, o + p * 2, none⟩ = some (.string y.cat) := fun u hu => (hu.cell (p := ⟨g, _, none⟩) hg3).trans c0
          have y1 : ∀ u, Below W2.heap.size W2 u → u.cell? ⟨g, o + p * 2 + 1, none⟩ = some (.int .i64 y.rate) := fun u hu => (hu.cell (p := ⟨g, _, none⟩) hg3).trans c1
          have N3 : Hid (∀ W, Below W2.heap.size W2 W → Calls Tryz.prog 79 #[.agg #[.string y.cat, .int .i64 y.rate]] W fun e w' => e = .returned (.string y.cat) ∧ Below W2.heap.size W2 w') := Lib.hid fun W hW => (rateName_any y W).mono fun e w' he => ⟨he.1, Hk.andThen hW he.2⟩
          have hle := fun W => leq_any x.cat y.cat W
          have HY := Lib.hid hy
          clear hok' hy hgl' hg3 b0 c0 b1 c1
          cases n2 : Sr.lt y.cat x.cat with
          | true =>
            rw [n2] at hle
            have HN := Lib.hid (HN.out n1 (fun z _ hz2 => by rw [HY.out] at hz2; injection hz2 with hz2; subst hz2; exact n2))
            clear n1 n2
            refine wp_region_held_drew (S := fun u => Below W2.heap.size W2 u) (by kernel_rfl) ((Below.refl _ _).drew) (fun hS0 => ?_)
            refine pkT 0 14 hS0 ?_
            try simp only [Act.put, pkA, pkB, pkC]
            refine pkT 1 15 hS0 ?_
            try simp only [Act.put, pkA, pkB, pkC]
            refine wpAnyH_ready (rs := [2]) (by kernel_rfl) (by simp) ?_
            refine AllReadyH.cons (o := ⟨some 16, _, _, _, _, _⟩) rfl (fun K hK => ?_) AllReadyH.nil
            go_simp
            refine (N1.out _ hS0).mono ?_
            rintro e wa ⟨rfl, ha⟩
            go_wp2_with fail
            refine hK.out _ _ (ha) (fun hS1 => ?_)
            clear hK K
            try simp only [Act.put, pkA, pkB, pkC]
            refine wpAnyH_ready (rs := [3]) (by kernel_rfl) (by simp) ?_
            refine AllReadyH.cons (o := ⟨some 17, _, _, _, _, _⟩) rfl (fun K hK => ?_) AllReadyH.nil
            go_simp
            refine (N2.out _).mono ?_
            rintro e wb ⟨rfl, rfl⟩
            go_wp2_with fail
            refine hK.out _ _ (hS1) (fun hS2 => ?_)
            clear hK K
            try simp only [Act.put, pkA, pkB, pkC]
            refine pkT 4 18 hS2 ?_
            try simp only [Act.put, pkA, pkB, pkC]
            refine pkT 5 19 hS2 ?_
            try simp only [Act.put, pkA, pkB, pkC]
            refine pkT 6 20 hS2 ?_
            try simp only [Act.put, pkA, pkB, pkC]
            refine pkT 7 21 hS2 ?_
            try simp only [Act.put, pkA, pkB, pkC]
            refine pkT 8 22 hS2 ?_
            try simp only [Act.put, pkA, pkB, pkC]
            refine pkT 9 23 hS2 ?_
            try simp only [Act.put, pkA, pkB, pkC]
            refine pkT 10 24 hS2 ?_
            try simp only [Act.put, pkA, pkB, pkC]
            refine pkT 12 26 hS2 ?_
            try simp only [Act.put, pkA, pkB, pkC]
            refine pkT 13 27 hS2 ?_
            try simp only [Act.put, pkA, pkB, pkC]
            refine pkT 14 28 hS2 ?_
            try simp only [Act.put, pkA, pkB, pkC]
            refine pkT 15 29 hS2 ?_
            try simp only [Act.put, pkA, pkB, pkC]
            refine pkT 16 30 hS2 ?_
            try simp only [Act.put, pkA, pkB, pkC]
            refine pkT 17 31 hS2 ?_
            try simp only [Act.put, pkA, pkB, pkC]
            refine wpAnyH_ready (rs := [11]) (by kernel_rfl) (by simp) ?_
            refine AllReadyH.cons (o := ⟨some 25, _, _, _, _, _⟩) rfl (fun K hK => ?_) AllReadyH.nil
            go_simp
            refine (N1.out _ hS2).mono ?_
            rintro e wc ⟨rfl, hc⟩
            go_wp2_with fail
            refine hK.out _ _ (hc) (fun hS3 => ?_)
            clear hK K
            try simp only [Act.put, pkA, pkB, pkC]
            refine wpAnyH_ready (rs := [18]) (by kernel_rfl) (by simp) ?_
            refine AllReadyH.cons (o := ⟨some 32, _, _, _, _, _⟩) rfl (fun K hK => ?_) AllReadyH.nil
            go_simp
            refine (N3.out _ hS3).mono ?_
            rintro e wd ⟨rfl, hd⟩
            go_wp2_with fail
            refine hK.out _ _ (hd) (fun hS4 => ?_)
            clear hK K
            try simp only [Act.put, pkA, pkB, pkC]
            refine pkT 19 33 hS4 ?_
            try simp only [Act.put, pkA, pkB, pkC]
            refine pkT 20 34 hS4 ?_
            try simp only [Act.put, pkA, pkB, pkC]
            refine pkT 21 35 hS4 ?_
            try simp only [Act.put, pkA, pkB, pkC]
            refine wpAnyH_done (by kernel_rfl) ?_ _
            have HB9 := Lib.hid (HB2.out.trans (Below.mono hS4 HB2.out.size))
            have HU9 := Lib.hid (And.intro HB9.out HN.out)
            clear x0 x1 y0 y1 hle
            go_wp2
            go_roundw
            case rel => exact ⟨k + 1, by go_num, by omega, HU9⟩
            case measure => simp [intOf]; omega
          | false =>
            rw [n2] at hle
            have HG := Lib.hid (names_step (f := CtR.cat) HX.out HY.out (by omega) n2)
            clear n1 n2 HN
            refine wp_region_held_drew (S := fun u => Below W2.heap.size W2 u) (by kernel_rfl) ((Below.refl _ _).drew) (fun hS0 => ?_)
            refine pkT 0 14 hS0 ?_
            try simp only [Act.put, pkA, pkB, pkC]
            refine pkT 1 15 hS0 ?_
            try simp only [Act.put, pkA, pkB, pkC]
            refine wpAnyH_ready (rs := [2]) (by kernel_rfl) (by simp) ?_
            refine AllReadyH.cons (o := ⟨some 16, _, _, _, _, _⟩) rfl (fun K hK => ?_) AllReadyH.nil
            go_simp
            refine (N1.out _ hS0).mono ?_
            rintro e wa ⟨rfl, ha⟩
            go_wp2_with fail
            refine hK.out _ _ (ha) (fun hS1 => ?_)
            clear hK K
            try simp only [Act.put, pkA, pkB, pkC]
            refine wpAnyH_ready (rs := [3]) (by kernel_rfl) (by simp) ?_
            refine AllReadyH.cons (o := ⟨some 17, _, _, _, _, _⟩) rfl (fun K hK => ?_) AllReadyH.nil
            go_simp
            refine (N2.out _).mono ?_
            rintro e wb ⟨rfl, rfl⟩
            go_wp2_with fail
            refine hK.out _ _ (hS1) (fun hS2 => ?_)
            clear hK K
            try simp only [Act.put, pkA, pkB, pkC]
            refine pkT 4 18 hS2 ?_
            try simp only [Act.put, pkA, pkB, pkC]
            refine pkT 5 19 hS2 ?_
            try simp only [Act.put, pkA, pkB, pkC]
            refine pkT 6 20 hS2 ?_
            try simp only [Act.put, pkA, pkB, pkC]
            refine pkT 7 21 hS2 ?_
            try simp only [Act.put, pkA, pkB, pkC]
            refine pkT 8 22 hS2 ?_
            try simp only [Act.put, pkA, pkB, pkC]
            refine pkT 9 23 hS2 ?_
            try simp only [Act.put, pkA, pkB, pkC]
            refine pkT 10 24 hS2 ?_
            try simp only [Act.put, pkA, pkB, pkC]
            refine pkT 12 26 hS2 ?_
            try simp only [Act.put, pkA, pkB, pkC]
            refine pkT 13 27 hS2 ?_
            try simp only [Act.put, pkA, pkB, pkC]
            refine pkT 14 28 hS2 ?_
            try simp only [Act.put, pkA, pkB, pkC]
            refine pkT 15 29 hS2 ?_
            try simp only [Act.put, pkA, pkB, pkC]
            refine pkT 16 30 hS2 ?_
            try simp only [Act.put, pkA, pkB, pkC]
            refine pkT 17 31 hS2 ?_
            try simp only [Act.put, pkA, pkB, pkC]
            refine wpAnyH_ready (rs := [11]) (by kernel_rfl) (by simp) ?_
            refine AllReadyH.cons (o := ⟨some 25, _, _, _, _, _⟩) rfl (fun K hK => ?_) AllReadyH.nil
            go_simp
            refine (N1.out _ hS2).mono ?_
            rintro e wc ⟨rfl, hc⟩
            go_wp2_with fail
            refine hK.out _ _ (hc) (fun hS3 => ?_)
            clear hK K
            try simp only [Act.put, pkA, pkB, pkC]
            refine wpAnyH_ready (rs := [18]) (by kernel_rfl) (by simp) ?_
            refine AllReadyH.cons (o := ⟨some 32, _, _, _, _, _⟩) rfl (fun K hK => ?_) AllReadyH.nil
            go_simp
            refine (N3.out _ hS3).mono ?_
            rintro e wd ⟨rfl, hd⟩
            go_wp2_with fail
            refine hK.out _ _ (hd) (fun hS4 => ?_)
            clear hK K
            try simp only [Act.put, pkA, pkB, pkC]
            refine pkT 19 33 hS4 ?_
            try simp only [Act.put, pkA, pkB, pkC]
            refine pkT 20 34 hS4 ?_
            try simp only [Act.put, pkA, pkB, pkC]
            refine pkT 21 35 hS4 ?_
            try simp only [Act.put, pkA, pkB, pkC]
            refine wpAnyH_done (by kernel_rfl) ?_ _
            have HB9 := Lib.hid (HB2.out.trans (Below.mono hS4 HB2.out.size))
            clear x0 x1 y0 y1 hle
            go_wp2
            go_ret
            exact ⟨by rw [HG.out]; rfl, HB9.out⟩
    · have k1 : ¬ (k : Int) < (n : Int) := by omega
      have HG : Hid (namesB CtR.cat xs = true) := Lib.hid (NUp.all (by have := HU.out.2; rw [show k = xs.length by have := HL.out; omega] at this; exact this))
      go_wp2
      go_ret
      exact ⟨by rw [HG.out]; rfl, HU.out.1⟩
set_option maxHeartbeats 4000000 in
theorem risesZ_any (A : Option Addr) (n c : Nat) (xs : List Zon) (w : World) (h : Row kZon w (· < w.heap.size) A n xs) (hn : n ≤ 1000000000000) :
    Calls Tryz.prog 40 #[.slice A n c, .func (.func 41) #[] #[]] w fun e w' => e = .returned (.bool (namesB Zon.name xs)) ∧ Below w.heap.size w w' := by
  have HR := Lib.hid h
  have HL := Lib.hid h.len
  clear h
  go_enter Tryz.func40, Tryz.ntmps40
  go_wp2
  go_loopw [9] (fun s9 wr => ∃ k : Nat, s9 = .int .i64 k ∧ k ≤ n ∧ Hid (Below w.heap.size w wr ∧ NUp Zon.name xs k)) (fun s9 _ => n - (intOf s9).toNat)
  case atStart => exact ⟨0, rfl, by omega, Lib.hid ⟨Below.refl _ _, NUp.begin _ _⟩⟩
  case round =>
    obtain ⟨k, rfl, hk, HU⟩ := hrel
    have k0 : (0 : Int) ≤ (k : Int) := by omega
    by_cases hlt : k < n
    · have k1 : (k : Int) < (n : Int) := by omega
      obtain ⟨x, hx⟩ := HR.out.get hlt
      obtain ⟨g, o, lx, rfl, _, hgl, hok, a0, a1, a2, a3⟩ := row_Zon (HR.out.below HU.out.1 (Nat.le_refl _)) hx
      obtain ⟨W2, hW2⟩ : ∃ W2, wr.alloc (.cells #[.string x.name, .slice lx.rates.A lx.rates.n lx.rates.c, .int .i64 x.rest, .int .i64 x.ship] 41) = W2 := ⟨_, rfl⟩
      have hbw : Below wr.heap.size wr W2 := by rw [← hW2]; exact (Below.refl _ _).alloc (Nat.le_refl _) _
      have hbx : Qu.Blk W2 wr.heap.size 41 #[.string x.name, .slice lx.rates.A lx.rates.n lx.rates.c, .int .i64 x.rest, .int .i64 x.ship] := by rw [← hW2]; exact Qu.Blk.new wr _ _
      have HB2 := Lib.hid (HU.out.1.trans (hbw.mono HU.out.1.size))
      have hg2 : g < W2.heap.size := Nat.lt_of_lt_of_le hgl hbw.size
      have HN : Hid (∀ (hb : Sr.name x.name = true) (hr : ∀ y, 0 < k → xs[k - 1]? = some y → Sr.lt y.name x.name = true), NUp Zon.name xs (k + 1)) := Lib.hid fun hb hr => HU.out.2.next hx hb hr
      have N1 : Hid (∀ W, Below W2.heap.size W2 W → Calls Tryz.prog 41 #[.agg #[.string x.name, .slice lx.rates.A lx.rates.n lx.rates.c, .int .i64 x.rest, .int .i64 x.ship]] W fun e w' => e = .returned (.string x.name) ∧ Below W2.heap.size W2 w') := Lib.hid fun W hW => (zoneName_any x lx W).mono fun e w' he => ⟨he.1, Hk.andThen hW he.2⟩
      have N2 := Lib.hid (fun W => Gd.name_any x.name W hok.name)
      have x0 : ∀ u, Below W2.heap.size W2 u → u.cell? ⟨wr.heap.size, 0, none⟩ = some (.string x.name) := fun u hu => (hbx.below hu).cell 0
      have x1 : ∀ u, Below W2.heap.size W2 u → u.cell? ⟨wr.heap.size, 1, none⟩ = some (.slice lx.rates.A lx.rates.n lx.rates.c) := fun u hu => (hbx.below hu).cell 1
      have x2 : ∀ u, Below W2.heap.size W2 u → u.cell? ⟨wr.heap.size, 2, none⟩ = some (.int .i64 x.rest) := fun u hu => (hbx.below hu).cell 2
      have x3 : ∀ u, Below W2.heap.size W2 u → u.cell? ⟨wr.heap.size, 3, none⟩ = some (.int .i64 x.ship) := fun u hu => (hbx.below hu).cell 3
      have HX := Lib.hid hx
      have hgw := Lib.hid (And.intro hbw hg2)
      clear hok hbx hbw hg2 hgl hx
      go_wp2_with fail
      try rw [hW2]
      clear hW2 a0 a1 a2 a3
      cases n1 : Sr.name x.name with
      | false =>
        rw [n1] at N2
        have HG := Lib.hid (names_bad (f := Zon.name) HX.out n1)
        clear n1 HN
        refine wp_region_held_drew (S := fun u => Below W2.heap.size W2 u) (by kernel_rfl) ((Below.refl _ _).drew) (fun hS0 => ?_)
        refine pkT 0 14 hS0 ?_
        try simp only [Act.put, pkA, pkB, pkC]
        refine pkT 1 15 hS0 ?_
        try simp only [Act.put, pkA, pkB, pkC]
        refine wpAnyH_ready (rs := [2]) (by kernel_rfl) (by simp) ?_
        refine AllReadyH.cons (o := ⟨some 16, _, _, _, _, _⟩) rfl (fun K hK => ?_) AllReadyH.nil
        go_simp
        refine (N1.out _ hS0).mono ?_
        rintro e wa ⟨rfl, ha⟩
        go_wp2_with fail
        refine hK.out _ _ (ha) (fun hS1 => ?_)
        clear hK K
        try simp only [Act.put, pkA, pkB, pkC]
        refine wpAnyH_ready (rs := [3]) (by kernel_rfl) (by simp) ?_
        refine AllReadyH.cons (o := ⟨some 17, _, _, _, _, _⟩) rfl (fun K hK => ?_) AllReadyH.nil
        go_simp
        refine (N2.out _).mono ?_
        rintro e wb ⟨rfl, rfl⟩
        go_wp2_with fail
        refine hK.out _ _ (hS1) (fun hS2 => ?_)
        clear hK K
        try simp only [Act.put, pkA, pkB, pkC]
        refine pkT 4 18 hS2 ?_
        try simp only [Act.put, pkA, pkB, pkC]
        refine pkT 5 19 hS2 ?_
        try simp only [Act.put, pkA, pkB, pkC]
        refine pkU 6 20 hS2 ?_
        try simp only [Act.put, pkA, pkB, pkC]
        refine pkU 7 21 hS2 ?_
        try simp only [Act.put, pkA, pkB, pkC]
        refine pkU 8 22 hS2 ?_
        try simp only [Act.put, pkA, pkB, pkC]
        refine pkU 9 23 hS2 ?_
        try simp only [Act.put, pkA, pkB, pkC]
        refine pkU 10 24 hS2 ?_
        try simp only [Act.put, pkA, pkB, pkC]
        refine pkU 11 25 hS2 ?_
        try simp only [Act.put, pkA, pkB, pkC]
        refine pkU 12 26 hS2 ?_
        try simp only [Act.put, pkA, pkB, pkC]
        refine pkU 13 27 hS2 ?_
        try simp only [Act.put, pkA, pkB, pkC]
        refine pkU 14 28 hS2 ?_
        try simp only [Act.put, pkA, pkB, pkC]
        refine pkU 15 29 hS2 ?_
        try simp only [Act.put, pkA, pkB, pkC]
        refine pkU 16 30 hS2 ?_
        try simp only [Act.put, pkA, pkB, pkC]
        refine pkU 17 31 hS2 ?_
        try simp only [Act.put, pkA, pkB, pkC]
        refine pkU 18 32 hS2 ?_
        try simp only [Act.put, pkA, pkB, pkC]
        refine pkU 19 33 hS2 ?_
        try simp only [Act.put, pkA, pkB, pkC]
        refine pkU 20 34 hS2 ?_
        try simp only [Act.put, pkA, pkB, pkC]
        refine pkT 21 35 hS2 ?_
        try simp only [Act.put, pkA, pkB, pkC]
        refine wpAnyH_done (by kernel_rfl) ?_ _
        have HB9 := Lib.hid (HB2.out.trans (Below.mono hS2 HB2.out.size))
        clear x0 x1 x2 x3
        go_wp2
        go_ret
        exact ⟨by rw [HG.out]; rfl, HB9.out⟩
      | true =>
        rw [n1] at N2
        by_cases hz : k = 0
        · have k2 : ¬ (0 : Int) < (k : Int) := by omega
          have HN := Lib.hid (HN.out n1 (fun y h0 => by omega))
          clear n1
          refine wp_region_held_drew (S := fun u => Below W2.heap.size W2 u) (by kernel_rfl) ((Below.refl _ _).drew) (fun hS0 => ?_)
          refine pkT 0 14 hS0 ?_
          try simp only [Act.put, pkA, pkB, pkC]
          refine pkT 1 15 hS0 ?_
          try simp only [Act.put, pkA, pkB, pkC]
          refine wpAnyH_ready (rs := [2]) (by kernel_rfl) (by simp) ?_
          refine AllReadyH.cons (o := ⟨some 16, _, _, _, _, _⟩) rfl (fun K hK => ?_) AllReadyH.nil
          go_simp
          refine (N1.out _ hS0).mono ?_
          rintro e wa ⟨rfl, ha⟩
          go_wp2_with fail
          refine hK.out _ _ (ha) (fun hS1 => ?_)
          clear hK K
          try simp only [Act.put, pkA, pkB, pkC]
          refine wpAnyH_ready (rs := [3]) (by kernel_rfl) (by simp) ?_
          refine AllReadyH.cons (o := ⟨some 17, _, _, _, _, _⟩) rfl (fun K hK => ?_) AllReadyH.nil
          go_simp
          refine (N2.out _).mono ?_
          rintro e wb ⟨rfl, rfl⟩
          go_wp2_with fail
          refine hK.out _ _ (hS1) (fun hS2 => ?_)
          clear hK K
          try simp only [Act.put, pkA, pkB, pkC]
          refine pkT 4 18 hS2 ?_
          try simp only [Act.put, pkA, pkB, pkC]
          refine pkT 5 19 hS2 ?_
          try simp only [Act.put, pkA, pkB, pkC]
          refine pkT 6 20 hS2 ?_
          try simp only [Act.put, pkA, pkB, pkC]
          refine pkT 7 21 hS2 ?_
          try simp only [Act.put, pkA, pkB, pkC]
          refine pkT 8 22 hS2 ?_
          try simp only [Act.put, pkA, pkB, pkC]
          refine pkU 9 23 hS2 ?_
          try simp only [Act.put, pkA, pkB, pkC]
          refine pkU 10 24 hS2 ?_
          try simp only [Act.put, pkA, pkB, pkC]
          refine pkU 11 25 hS2 ?_
          try simp only [Act.put, pkA, pkB, pkC]
          refine pkU 12 26 hS2 ?_
          try simp only [Act.put, pkA, pkB, pkC]
          refine pkU 13 27 hS2 ?_
          try simp only [Act.put, pkA, pkB, pkC]
          refine pkU 14 28 hS2 ?_
          try simp only [Act.put, pkA, pkB, pkC]
          refine pkU 15 29 hS2 ?_
          try simp only [Act.put, pkA, pkB, pkC]
          refine pkU 16 30 hS2 ?_
          try simp only [Act.put, pkA, pkB, pkC]
          refine pkU 17 31 hS2 ?_
          try simp only [Act.put, pkA, pkB, pkC]
          refine pkU 18 32 hS2 ?_
          try simp only [Act.put, pkA, pkB, pkC]
          refine pkU 19 33 hS2 ?_
          try simp only [Act.put, pkA, pkB, pkC]
          refine pkT 20 34 hS2 ?_
          try simp only [Act.put, pkA, pkB, pkC]
          refine pkT 21 35 hS2 ?_
          try simp only [Act.put, pkA, pkB, pkC]
          refine wpAnyH_done (by kernel_rfl) ?_ _
          have HB9 := Lib.hid (HB2.out.trans (Below.mono hS2 HB2.out.size))
          have HU9 := Lib.hid (And.intro HB9.out HN.out)
          clear x0 x1 x2 x3
          go_wp2
          go_roundw
          case rel => exact ⟨k + 1, by go_num, by omega, HU9⟩
          case measure => simp [intOf]; omega
        · have k2 : (0 : Int) < (k : Int) := by omega
          have k3 : 0 < k := by omega
          obtain ⟨y, hy⟩ := HR.out.get (k := k - 1) (by omega)
          obtain ⟨g', o', ly, e0, _, hgl', hok', b0, b1, b2, b3⟩ := row_Zon (HR.out.below HU.out.1 (Nat.le_refl _)) hy
          injection e0 with e0
          injection e0 with e1 e2
          subst e1 e2
          have hg3 := hgw.out.2
          obtain ⟨p, hp⟩ : ∃ p : Nat, k - 1 = p := ⟨_, rfl⟩
          have p1 : (k : Int) - 1 = (p : Int) := by omega
          have p2 : IntKind.i64.wrap ((k : Int) - 1) = (p : Int) := by rw [IntWalk.i64_in _ (by omega)]; omega
          have p3 : (p : Int) < (n : Int) := by omega
          have p5 : IntKind.i64.wrap (p : Int) = (p : Int) := IntWalk.i64_in _ (by omega)
          have p4 : (0 : Int) ≤ (p : Int) := by omega
          rw [hp] at b0 b1 b2 b3
          have c0 : W2.cell? ⟨g, o + p * 4, none⟩ = some (.string y.name) := (hgw.out.1.cell (p := ⟨g, _, none⟩) hgl').trans b0
          have c1 : W2.cell? ⟨g, o + p * 4 + 1, none⟩ = some (.slice ly.rates.A ly.rates.n ly.rates.c) := (hgw.out.1.cell (p := ⟨g, _, none⟩) hgl').trans b1
          have c2 : W2.cell? ⟨g, o + p * 4 + 2, none⟩ = some (.int .i64 y.rest) := (hgw.out.1.cell (p := ⟨g, _, none⟩) hgl').trans b2
          have c3 : W2.cell? ⟨g, o + p * 4 + 3, none⟩ = some (.int .i64 y.ship) := (hgw.out.1.cell (p := ⟨g, _, none⟩) hgl').trans b3
          have y0 : ∀ u, Below W2.heap.size W2 u → u.cell? ⟨g, o + p * 4, none⟩ = some (.string y.name) := fun u hu => (hu.cell (p := ⟨g, _, none⟩) hg3).trans c0
          have y1 : ∀ u, Below W2.heap.size W2 u → u.cell? ⟨g, o + p * 4 + 1, none⟩ = some (.slice ly.rates.A ly.rates.n ly.rates.c) := fun u hu => (hu.cell (p := ⟨g, _, none⟩) hg3).trans c1
          have y2 : ∀ u, Below W2.heap.size W2 u → u.cell? ⟨g, o + p * 4 + 2, none⟩ = some (.int .i64 y.rest) := fun u hu => (hu.cell (p := ⟨g, _, none⟩) hg3).trans c2
          have y3 : ∀ u, Below W2.heap.size W2 u → u.cell? ⟨g, o + p * 4 + 3, none⟩ = some (.int .i64 y.ship) := fun u hu => (hu.cell (p := ⟨g, _, none⟩) hg3).trans c3
          have N3 : Hid (∀ W, Below W2.heap.size W2 W → Calls Tryz.prog 41 #[.agg #[.string y.name, .slice ly.rates.A ly.rates.n ly.rates.c, .int .i64 y.rest, .int .i64 y.ship]] W fun e w' => e = .returned (.string y.name) ∧ Below W2.heap.size W2 w') := Lib.hid fun W hW => (zoneName_any y ly W).mono fun e w' he => ⟨he.1, Hk.andThen hW he.2⟩
          have hle := fun W => leq_any x.name y.name W
          have HY := Lib.hid hy
          clear hok' hy hgl' hg3 b0 c0 b1 c1 b2 c2 b3 c3
          cases n2 : Sr.lt y.name x.name with
          | true =>
            rw [n2] at hle
            have HN := Lib.hid (HN.out n1 (fun z _ hz2 => by rw [HY.out] at hz2; injection hz2 with hz2; subst hz2; exact n2))
            clear n1 n2
            refine wp_region_held_drew (S := fun u => Below W2.heap.size W2 u) (by kernel_rfl) ((Below.refl _ _).drew) (fun hS0 => ?_)
            refine pkT 0 14 hS0 ?_
            try simp only [Act.put, pkA, pkB, pkC]
            refine pkT 1 15 hS0 ?_
            try simp only [Act.put, pkA, pkB, pkC]
            refine wpAnyH_ready (rs := [2]) (by kernel_rfl) (by simp) ?_
            refine AllReadyH.cons (o := ⟨some 16, _, _, _, _, _⟩) rfl (fun K hK => ?_) AllReadyH.nil
            go_simp
            refine (N1.out _ hS0).mono ?_
            rintro e wa ⟨rfl, ha⟩
            go_wp2_with fail
            refine hK.out _ _ (ha) (fun hS1 => ?_)
            clear hK K
            try simp only [Act.put, pkA, pkB, pkC]
            refine wpAnyH_ready (rs := [3]) (by kernel_rfl) (by simp) ?_
            refine AllReadyH.cons (o := ⟨some 17, _, _, _, _, _⟩) rfl (fun K hK => ?_) AllReadyH.nil
            go_simp
            refine (N2.out _).mono ?_
            rintro e wb ⟨rfl, rfl⟩
            go_wp2_with fail
            refine hK.out _ _ (hS1) (fun hS2 => ?_)
            clear hK K
            try simp only [Act.put, pkA, pkB, pkC]
            refine pkT 4 18 hS2 ?_
            try simp only [Act.put, pkA, pkB, pkC]
            refine pkT 5 19 hS2 ?_
            try simp only [Act.put, pkA, pkB, pkC]
            refine pkT 6 20 hS2 ?_
            try simp only [Act.put, pkA, pkB, pkC]
            refine pkT 7 21 hS2 ?_
            try simp only [Act.put, pkA, pkB, pkC]
            refine pkT 8 22 hS2 ?_
            try simp only [Act.put, pkA, pkB, pkC]
            refine pkT 9 23 hS2 ?_
            try simp only [Act.put, pkA, pkB, pkC]
            refine pkT 10 24 hS2 ?_
            try simp only [Act.put, pkA, pkB, pkC]
            refine pkT 12 26 hS2 ?_
            try simp only [Act.put, pkA, pkB, pkC]
            refine pkT 13 27 hS2 ?_
            try simp only [Act.put, pkA, pkB, pkC]
            refine pkT 14 28 hS2 ?_
            try simp only [Act.put, pkA, pkB, pkC]
            refine pkT 15 29 hS2 ?_
            try simp only [Act.put, pkA, pkB, pkC]
            refine pkT 16 30 hS2 ?_
            try simp only [Act.put, pkA, pkB, pkC]
            refine pkT 17 31 hS2 ?_
            try simp only [Act.put, pkA, pkB, pkC]
            refine wpAnyH_ready (rs := [11]) (by kernel_rfl) (by simp) ?_
            refine AllReadyH.cons (o := ⟨some 25, _, _, _, _, _⟩) rfl (fun K hK => ?_) AllReadyH.nil
            go_simp
            refine (N1.out _ hS2).mono ?_
            rintro e wc ⟨rfl, hc⟩
            go_wp2_with fail
            refine hK.out _ _ (hc) (fun hS3 => ?_)
            clear hK K
            try simp only [Act.put, pkA, pkB, pkC]
            refine wpAnyH_ready (rs := [18]) (by kernel_rfl) (by simp) ?_
            refine AllReadyH.cons (o := ⟨some 32, _, _, _, _, _⟩) rfl (fun K hK => ?_) AllReadyH.nil
            go_simp
            refine (N3.out _ hS3).mono ?_
            rintro e wd ⟨rfl, hd⟩
            go_wp2_with fail
            refine hK.out _ _ (hd) (fun hS4 => ?_)
            clear hK K
            try simp only [Act.put, pkA, pkB, pkC]
            refine pkT 19 33 hS4 ?_
            try simp only [Act.put, pkA, pkB, pkC]
            refine pkT 20 34 hS4 ?_
            try simp only [Act.put, pkA, pkB, pkC]
            refine pkT 21 35 hS4 ?_
            try simp only [Act.put, pkA, pkB, pkC]
            refine wpAnyH_done (by kernel_rfl) ?_ _
            have HB9 := Lib.hid (HB2.out.trans (Below.mono hS4 HB2.out.size))
            have HU9 := Lib.hid (And.intro HB9.out HN.out)
            clear x0 x1 x2 x3 y0 y1 y2 y3 hle
            go_wp2
            go_roundw
            case rel => exact ⟨k + 1, by go_num, by omega, HU9⟩
            case measure => simp [intOf]; omega
          | false =>
            rw [n2] at hle
            have HG := Lib.hid (names_step (f := Zon.name) HX.out HY.out (by omega) n2)
            clear n1 n2 HN
            refine wp_region_held_drew (S := fun u => Below W2.heap.size W2 u) (by kernel_rfl) ((Below.refl _ _).drew) (fun hS0 => ?_)
            refine pkT 0 14 hS0 ?_
            try simp only [Act.put, pkA, pkB, pkC]
            refine pkT 1 15 hS0 ?_
            try simp only [Act.put, pkA, pkB, pkC]
            refine wpAnyH_ready (rs := [2]) (by kernel_rfl) (by simp) ?_
            refine AllReadyH.cons (o := ⟨some 16, _, _, _, _, _⟩) rfl (fun K hK => ?_) AllReadyH.nil
            go_simp
            refine (N1.out _ hS0).mono ?_
            rintro e wa ⟨rfl, ha⟩
            go_wp2_with fail
            refine hK.out _ _ (ha) (fun hS1 => ?_)
            clear hK K
            try simp only [Act.put, pkA, pkB, pkC]
            refine wpAnyH_ready (rs := [3]) (by kernel_rfl) (by simp) ?_
            refine AllReadyH.cons (o := ⟨some 17, _, _, _, _, _⟩) rfl (fun K hK => ?_) AllReadyH.nil
            go_simp
            refine (N2.out _).mono ?_
            rintro e wb ⟨rfl, rfl⟩
            go_wp2_with fail
            refine hK.out _ _ (hS1) (fun hS2 => ?_)
            clear hK K
            try simp only [Act.put, pkA, pkB, pkC]
            refine pkT 4 18 hS2 ?_
            try simp only [Act.put, pkA, pkB, pkC]
            refine pkT 5 19 hS2 ?_
            try simp only [Act.put, pkA, pkB, pkC]
            refine pkT 6 20 hS2 ?_
            try simp only [Act.put, pkA, pkB, pkC]
            refine pkT 7 21 hS2 ?_
            try simp only [Act.put, pkA, pkB, pkC]
            refine pkT 8 22 hS2 ?_
            try simp only [Act.put, pkA, pkB, pkC]
            refine pkT 9 23 hS2 ?_
            try simp only [Act.put, pkA, pkB, pkC]
            refine pkT 10 24 hS2 ?_
            try simp only [Act.put, pkA, pkB, pkC]
            refine pkT 12 26 hS2 ?_
            try simp only [Act.put, pkA, pkB, pkC]
            refine pkT 13 27 hS2 ?_
            try simp only [Act.put, pkA, pkB, pkC]
            refine pkT 14 28 hS2 ?_
            try simp only [Act.put, pkA, pkB, pkC]
            refine pkT 15 29 hS2 ?_
            try simp only [Act.put, pkA, pkB, pkC]
            refine pkT 16 30 hS2 ?_
            try simp only [Act.put, pkA, pkB, pkC]
            refine pkT 17 31 hS2 ?_
            try simp only [Act.put, pkA, pkB, pkC]
            refine wpAnyH_ready (rs := [11]) (by kernel_rfl) (by simp) ?_
            refine AllReadyH.cons (o := ⟨some 25, _, _, _, _, _⟩) rfl (fun K hK => ?_) AllReadyH.nil
            go_simp
            refine (N1.out _ hS2).mono ?_
            rintro e wc ⟨rfl, hc⟩
            go_wp2_with fail
            refine hK.out _ _ (hc) (fun hS3 => ?_)
            clear hK K
            try simp only [Act.put, pkA, pkB, pkC]
            refine wpAnyH_ready (rs := [18]) (by kernel_rfl) (by simp) ?_
            refine AllReadyH.cons (o := ⟨some 32, _, _, _, _, _⟩) rfl (fun K hK => ?_) AllReadyH.nil
            go_simp
            refine (N3.out _ hS3).mono ?_
            rintro e wd ⟨rfl, hd⟩
            go_wp2_with fail
            refine hK.out _ _ (hd) (fun hS4 => ?_)
            clear hK K
            try simp only [Act.put, pkA, pkB, pkC]
            refine pkT 19 33 hS4 ?_
            try simp only [Act.put, pkA, pkB, pkC]
            refine pkT 20 34 hS4 ?_
            try simp only [Act.put, pkA, pkB, pkC]
            refine pkT 21 35 hS4 ?_
            try simp only [Act.put, pkA, pkB, pkC]
            refine wpAnyH_done (by kernel_rfl) ?_ _
            have HB9 := Lib.hid (HB2.out.trans (Below.mono hS4 HB2.out.size))
            clear x0 x1 x2 x3 y0 y1 y2 y3 hle
            go_wp2
            go_ret
            exact ⟨by rw [HG.out]; rfl, HB9.out⟩
    · have k1 : ¬ (k : Int) < (n : Int) := by omega
      have HG : Hid (namesB Zon.name xs = true) := Lib.hid (NUp.all (by have := HU.out.2; rw [show k = xs.length by have := HL.out; omega] at this; exact this))
      go_wp2
      go_ret
      exact ⟨by rw [HG.out]; rfl, HU.out.1⟩
end Go.Proofs.YtfcmhgneijipgaaGreat.Ru
