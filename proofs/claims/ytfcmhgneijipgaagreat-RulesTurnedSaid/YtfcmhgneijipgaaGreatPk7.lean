/- The document's Tax. (made by wip/gen-rules.py) -/
import Derived.Deep.RegionHeld3
import Derived.Test.YtfcmhgneijipgaaGreatPk5

set_option maxRecDepth 100000
set_option linter.unusedVariables false
namespace Go.Proofs.YtfcmhgneijipgaaGreat.Ru
open Go.ChangeShapes Go.WideShapes Go.ChangeAt Go.RowKit
open Ap (CtR Zon Txs kCtR kZon row_CtR row_Zon)
open Kd (Row Fit Lst Sl kStr kInt row_int)
def ZonesSmall (l : List Zon) : Prop := ∀ (k : Nat) (z : Zon), l[k]? = some z → z.rates.length ≤ 1000000000000
theorem zon_holds {w w1 : World} {z : Zon} {l : Zon.Lay} (h : Zon.Holds w (· < w.heap.size) z l) (hb : Below w.heap.size w w1) : Zon.Holds w1 (· < w1.heap.size) z l :=
  ⟨h.name, (h.rates.below hb (Nat.le_refl _)).more fun b hb2 => Nat.lt_of_lt_of_le hb2 hb.size, h.rest, h.ship⟩
set_option maxHeartbeats 4000000 in
theorem rtax_any (t : Txs) (l : Txs.Lay) (w : World) (h : Txs.Holds w (· < w.heap.size) t l) (hS : ZonesSmall t.zones) (hn : l.zones.n ≤ 1000000000000) :
    Calls Tryz.prog 14 #[.agg #[.bool t.incl, .bool t.byOrder, .int .i64 t.round, .slice l.zones.A l.zones.n l.zones.c]] w fun e w' => e = .returned (.bool (taxB t)) ∧ Below w.heap.size w w' := by
  obtain ⟨W1, hW1⟩ : ∃ W1, w.alloc (.cells #[.bool t.incl, .bool t.byOrder, .int .i64 t.round, .slice l.zones.A l.zones.n l.zones.c] 26) = W1 := ⟨_, rfl⟩
  have hb1 : Below w.heap.size w W1 := by rw [← hW1]; exact (Below.refl _ _).alloc (Nat.le_refl _) _
  have hs1 : w.heap.size < W1.heap.size := by rw [← hW1]; simp
  have hbox : Qu.Blk W1 w.heap.size 26 #[.bool t.incl, .bool t.byOrder, .int .i64 t.round, .slice l.zones.A l.zones.n l.zones.c] := by rw [← hW1]; exact Qu.Blk.new w _ _
  have HH := Lib.hid (And.intro h.zones.row hS)
  have HB1 := Lib.hid (And.intro hb1 hbox)
  have x3 := hbox.cell 3
  have HLn := Lib.hid h.zones.row.len
  have HZ : Hid (taxB t = (zonesB t.zones && (decide (0 ≤ t.round) && decide (t.round ≤ 2)))) := Lib.hid rfl
  clear h hb1 hbox hS
  generalize hl : l.zones = sl at *
  obtain ⟨A, n, c⟩ := sl
  go_enter Tryz.func14, Tryz.ntmps14
  go_wp2
  clear hW1 x3
  go_loopw [3] (fun s3 wr => ∃ k : Nat, s3 = .int .i64 k ∧ k ≤ n ∧ Hid (Below W1.heap.size W1 wr ∧ ZUp t.zones k)) (fun s3 _ => n - (intOf s3).toNat)
  case atStart => exact ⟨0, rfl, by omega, Lib.hid ⟨Below.refl _ _, ZUp.begin _⟩⟩
  case round =>
    obtain ⟨k, rfl, hk, HU⟩ := hrel
    have kk : (0 : Int) ≤ (k : Int) := by omega
    have hwr : Below w.heap.size w wr := HB1.out.1.trans (HU.out.1.mono (Nat.le_of_lt hs1))
    have hbx := HB1.out.2.below HU.out.1
    by_cases hlt : k < n
    · have k1 : (k : Int) < (n : Int) := by omega
      obtain ⟨x, hx⟩ := HH.out.1.get hlt
      obtain ⟨g, o, lx, hA, _, hgl, hok, a0, a1, a2, a3⟩ := row_Zon (HH.out.1.below hwr (Nat.le_refl _)) hx
      subst hA
      have hok2 : Zon.Holds wr (· < wr.heap.size) x lx := ⟨hok.name, hok.rates.more fun b hb => Nat.lt_of_lt_of_le hb hwr.size, hok.rest, hok.ship⟩
      have y3 : ∀ u, Below wr.heap.size wr u → u.cell? ⟨w.heap.size, 3, none⟩ = some (.slice (some ⟨g, o, none⟩) n c) := fun u hu => (hbx.below hu).cell 3
      have c0 : ∀ u, Below wr.heap.size wr u → u.cell? ⟨g, o + k * 4, none⟩ = some (.string x.name) := fun u hu => (hu.cell (p := ⟨g, _, none⟩) hgl).trans a0
      have c1 : ∀ u, Below wr.heap.size wr u → u.cell? ⟨g, o + k * 4 + 1, none⟩ = some (.slice lx.rates.A lx.rates.n lx.rates.c) := fun u hu => (hu.cell (p := ⟨g, _, none⟩) hgl).trans a1
      have c2 : ∀ u, Below wr.heap.size wr u → u.cell? ⟨g, o + k * 4 + 2, none⟩ = some (.int .i64 x.rest) := fun u hu => (hu.cell (p := ⟨g, _, none⟩) hgl).trans a2
      have c3 : ∀ u, Below wr.heap.size wr u → u.cell? ⟨g, o + k * 4 + 3, none⟩ = some (.int .i64 x.ship) := fun u hu => (hu.cell (p := ⟨g, _, none⟩) hgl).trans a3
      have y3' := y3 wr (Below.refl _ _)
      have HX := Lib.hid hx
      have N1 := Lib.hid (fun W => Py.rname_any x.name W hok.name)
      have hrs : lx.rates.n ≤ 1000000000000 := by have := HH.out.2 k x hx; have h2 := hok.rates.row.len; omega
      have N3 : Hid (∀ u, Below wr.heap.size wr u → Calls Tryz.prog 45 #[.agg #[.string x.name, .slice lx.rates.A lx.rates.n lx.rates.c, .int .i64 x.rest, .int .i64 x.ship]] u fun e w' => e = .returned (.bool (zoneB x)) ∧ Below wr.heap.size wr w') := Lib.hid fun u hu => (rrates_any x lx u (zon_holds hok2 hu) hrs).mono fun e w' he => ⟨he.1, Hk.andThen hu he.2⟩
      have HI : Hid (zonB x = (Sr.name x.name && zoneB x)) := Lib.hid rfl
      have HBx := Lib.hid (And.intro hwr HU.out.1)
      clear hx hok hok2 a0 a1 a2 a3 hwr hbx hrs
      cases n1 : Sr.name x.name with
      | false =>
        rw [n1] at N1
        have HB := Lib.hid (zone_bad HX.out (by rw [HI.out, n1]; rfl))
        have HZ0 : Hid (taxB t = false) := Lib.hid (by rw [HZ.out, HB.out]; rfl)
        clear n1 hgl
        have c0' := c0 wr (Below.refl _ _)
        clear y3 c0 c1 c2 c3
        go_wp2_with fail
        go_quiet ((go_at_call 44; with_reducible exact Calls.quiet_of_same (N1.out _)))
        go_wp2
        go_ret
        exact ⟨by rw [HZ0.out]; rfl, Qu.below_draws HBx.out.1 _⟩
      | true =>
        rw [n1] at N1
        cases n3 : zoneB x with
        | false =>
          rw [n3] at N3
          have HB := Lib.hid (zone_bad HX.out (by rw [HI.out, n1, n3]; rfl))
          have HZ0 : Hid (taxB t = false) := Lib.hid (by rw [HZ.out, HB.out]; rfl)
          clear n1 n3 hgl
          go_wp2_with fail
          refine wp_region_held_drew (S := fun u => Below wr.heap.size wr u) (by kernel_rfl) ((Below.refl _ _).drew) (fun hS0 => ?_)
          refine pkT 0 11 hS0 ?_
          try simp only [Act.put, pkA, pkB, pkC]
          refine pkT 1 12 hS0 ?_
          try simp only [Act.put, pkA, pkB, pkC]
          refine pkT 2 13 hS0 ?_
          try simp only [Act.put, pkA, pkB, pkC]
          refine pkT 3 14 hS0 ?_
          try simp only [Act.put, pkA, pkB, pkC]
          refine pkT 4 15 hS0 ?_
          try simp only [Act.put, pkA, pkB, pkC]
          refine pkT 5 16 hS0 ?_
          try simp only [Act.put, pkA, pkB, pkC]
          refine wpAnyH_ready (rs := [6]) (by kernel_rfl) (by simp) ?_
          refine AllReadyH.cons (o := ⟨some 17, _, _, _, _, _⟩) rfl (fun K hK => ?_) AllReadyH.nil
          go_simp
          refine (N1.out _).mono ?_
          rintro e wa ⟨rfl, rfl⟩
          go_wp2_with fail
          refine hK.out _ _ (hS0) (fun hS1 => ?_)
          clear hK K
          try simp only [Act.put, pkA, pkB, pkC]
          refine pkT 7 18 hS1 ?_
          try simp only [Act.put, pkA, pkB, pkC]
          refine pkT 8 19 hS1 ?_
          try simp only [Act.put, pkA, pkB, pkC]
          refine pkT 9 20 hS1 ?_
          try simp only [Act.put, pkA, pkB, pkC]
          refine pkT 10 21 hS1 ?_
          try simp only [Act.put, pkA, pkB, pkC]
          refine pkT 11 22 hS1 ?_
          try simp only [Act.put, pkA, pkB, pkC]
          refine pkT 12 23 hS1 ?_
          try simp only [Act.put, pkA, pkB, pkC]
          refine pkT 13 24 hS1 ?_
          try simp only [Act.put, pkA, pkB, pkC]
          refine wpAnyH_ready (rs := [14]) (by kernel_rfl) (by simp) ?_
          refine AllReadyH.cons (o := ⟨some 25, _, _, _, _, _⟩) rfl (fun K hK => ?_) AllReadyH.nil
          go_simp
          refine (N3.out _ hS1).mono ?_
          rintro e wb ⟨rfl, hb⟩
          go_wp2_with fail
          refine hK.out _ _ (hb) (fun hS2 => ?_)
          clear hK K
          try simp only [Act.put, pkA, pkB, pkC]
          refine pkT 15 26 hS2 ?_
          try simp only [Act.put, pkA, pkB, pkC]
          refine pkT 16 27 hS2 ?_
          try simp only [Act.put, pkA, pkB, pkC]
          refine pkT 17 28 hS2 ?_
          try simp only [Act.put, pkA, pkB, pkC]
          refine pkU 18 29 hS2 ?_
          try simp only [Act.put, pkA, pkB, pkC]
          refine pkU 19 30 hS2 ?_
          try simp only [Act.put, pkA, pkB, pkC]
          refine pkU 20 31 hS2 ?_
          try simp only [Act.put, pkA, pkB, pkC]
          refine pkU 21 32 hS2 ?_
          try simp only [Act.put, pkA, pkB, pkC]
          refine pkU 22 33 hS2 ?_
          try simp only [Act.put, pkA, pkB, pkC]
          refine pkU 23 34 hS2 ?_
          try simp only [Act.put, pkA, pkB, pkC]
          refine pkU 24 35 hS2 ?_
          try simp only [Act.put, pkA, pkB, pkC]
          refine pkU 25 36 hS2 ?_
          try simp only [Act.put, pkA, pkB, pkC]
          refine pkU 26 37 hS2 ?_
          try simp only [Act.put, pkA, pkB, pkC]
          refine pkU 27 38 hS2 ?_
          try simp only [Act.put, pkA, pkB, pkC]
          refine pkU 28 39 hS2 ?_
          try simp only [Act.put, pkA, pkB, pkC]
          refine pkU 29 40 hS2 ?_
          try simp only [Act.put, pkA, pkB, pkC]
          refine pkU 30 41 hS2 ?_
          try simp only [Act.put, pkA, pkB, pkC]
          refine pkU 31 42 hS2 ?_
          try simp only [Act.put, pkA, pkB, pkC]
          refine pkU 32 43 hS2 ?_
          try simp only [Act.put, pkA, pkB, pkC]
          refine pkU 33 44 hS2 ?_
          try simp only [Act.put, pkA, pkB, pkC]
          refine pkU 34 45 hS2 ?_
          try simp only [Act.put, pkA, pkB, pkC]
          refine pkU 35 46 hS2 ?_
          try simp only [Act.put, pkA, pkB, pkC]
          refine pkT 36 47 hS2 ?_
          try simp only [Act.put, pkA, pkB, pkC]
          refine wpAnyH_done (by kernel_rfl) ?_ _
          have HB2 := Lib.hid (HBx.out.1.trans (hb.mono HBx.out.1.size))
          clear y3 c0 c1 c2 c3 N3
          go_wp2
          go_ret
          exact ⟨by rw [HZ0.out]; rfl, HB2.out⟩
        | true =>
          rw [n3] at N3
          have HG : Hid (zonB x = true) := Lib.hid (by rw [HI.out, n1, n3]; rfl)
          clear n1 n3
          by_cases k0 : 0 < k
          · obtain ⟨y, hy⟩ := HH.out.1.get (k := k - 1) (by omega)
            obtain ⟨z, hz⟩ : ∃ z, k - 1 = z := ⟨_, rfl⟩
            rw [hz] at hy
            obtain ⟨g', o', ly, hA, _, _, _, b1, _⟩ := row_Zon (HH.out.1.below HBx.out.1 (Nat.le_refl _)) hy
            injection hA with hA
            injection hA with hA1 hA2
            subst hA1 hA2
            have d0 : ∀ u, Below wr.heap.size wr u → u.cell? ⟨g, o + z * 4, none⟩ = some (.string y.name) := fun u hu => (hu.cell (p := ⟨g, _, none⟩) hgl).trans b1
            have HY := Lib.hid (show t.zones[k - 1]? = some y by rw [hz]; exact hy)
            have j0 : (0 : Int) < (k : Int) := by omega
            have j4 : IntKind.i64.wrap ((k : Int) - 1) = (z : Int) := by rw [IntWalk.i64_in _ (by omega)]; omega
            have j1 : (0 : Int) ≤ (z : Int) := by omega
            have j2 : (z : Int) < (n : Int) := by omega
            have hle := fun W => leq_any x.name y.name W
            clear b1 hy hz hgl
            cases hB : Sr.lt y.name x.name with
            | true =>
              rw [hB] at hle
              have HU2 := Lib.hid (HU.out.2.next HX.out HG.out fun z _ hz => by
                rw [HY.out] at hz; injection hz with hz; subst hz; exact hB)
              clear hB
              go_wp2_with fail
              go_region_held3 (fun u => Below wr.heap.size wr u)
                (first
                  | assumption
                  | exact (Below.refl _ _).drew
                  | exact Below.refl _ _)
                (first
                  | (go_at_call 44; with_reducible refine (N1.out _).mono ?_; rintro e wa ⟨rfl, rfl⟩)
                  | (go_at_call 45; with_reducible refine (N3.out _ (by first | assumption | exact (Below.refl _ _).drew)).mono ?_; rintro e wb ⟨rfl, hb⟩))
              have HU3 := Lib.hid (And.intro (HBx.out.2.trans (hb.mono HBx.out.2.size)) HU2.out)
              clear hb y3 c0 c1 c2 c3 d0 N3
              go_wp2
              go_roundw
              case rel => exact ⟨k + 1, by go_num, by omega, HU3⟩
              case measure => simp [intOf]; omega
            | false =>
              rw [hB] at hle
              have HB := Lib.hid (zone_step HX.out HY.out k0 hB)
              have HZ0 : Hid (taxB t = false) := Lib.hid (by rw [HZ.out, HB.out]; rfl)
              clear hB
              go_wp2_with fail
              go_region_held3 (fun u => Below wr.heap.size wr u)
                (first
                  | assumption
                  | exact (Below.refl _ _).drew
                  | exact Below.refl _ _)
                (first
                  | (go_at_call 44; with_reducible refine (N1.out _).mono ?_; rintro e wa ⟨rfl, rfl⟩)
                  | (go_at_call 45; with_reducible refine (N3.out _ (by first | assumption | exact (Below.refl _ _).drew)).mono ?_; rintro e wb ⟨rfl, hb⟩))
              have HB2 := Lib.hid (HBx.out.1.trans (hb.mono HBx.out.1.size))
              clear hb y3 c0 c1 c2 c3 d0 N3
              go_wp2
              go_ret
              exact ⟨by rw [HZ0.out]; rfl, HB2.out⟩
          · have j0 : ¬ (0 : Int) < (k : Int) := by omega
            have HU2 := Lib.hid (HU.out.2.next HX.out HG.out fun z h => by omega)
            clear hgl
            go_wp2_with fail
            refine wp_region_held_drew (S := fun u => Below wr.heap.size wr u) (by kernel_rfl) ((Below.refl _ _).drew) (fun hS0 => ?_)
            refine pkT 0 11 hS0 ?_
            try simp only [Act.put, pkA, pkB, pkC]
            refine pkT 1 12 hS0 ?_
            try simp only [Act.put, pkA, pkB, pkC]
            refine pkT 2 13 hS0 ?_
            try simp only [Act.put, pkA, pkB, pkC]
            refine pkT 3 14 hS0 ?_
            try simp only [Act.put, pkA, pkB, pkC]
            refine pkT 4 15 hS0 ?_
            try simp only [Act.put, pkA, pkB, pkC]
            refine pkT 5 16 hS0 ?_
            try simp only [Act.put, pkA, pkB, pkC]
            refine wpAnyH_ready (rs := [6]) (by kernel_rfl) (by simp) ?_
            refine AllReadyH.cons (o := ⟨some 17, _, _, _, _, _⟩) rfl (fun K hK => ?_) AllReadyH.nil
            go_simp
            refine (N1.out _).mono ?_
            rintro e wa ⟨rfl, rfl⟩
            go_wp2_with fail
            refine hK.out _ _ (hS0) (fun hS1 => ?_)
            clear hK K
            try simp only [Act.put, pkA, pkB, pkC]
            refine pkT 7 18 hS1 ?_
            try simp only [Act.put, pkA, pkB, pkC]
            refine pkT 8 19 hS1 ?_
            try simp only [Act.put, pkA, pkB, pkC]
            refine pkT 9 20 hS1 ?_
            try simp only [Act.put, pkA, pkB, pkC]
            refine pkT 10 21 hS1 ?_
            try simp only [Act.put, pkA, pkB, pkC]
            refine pkT 11 22 hS1 ?_
            try simp only [Act.put, pkA, pkB, pkC]
            refine pkT 12 23 hS1 ?_
            try simp only [Act.put, pkA, pkB, pkC]
            refine pkT 13 24 hS1 ?_
            try simp only [Act.put, pkA, pkB, pkC]
            refine wpAnyH_ready (rs := [14]) (by kernel_rfl) (by simp) ?_
            refine AllReadyH.cons (o := ⟨some 25, _, _, _, _, _⟩) rfl (fun K hK => ?_) AllReadyH.nil
            go_simp
            refine (N3.out _ hS1).mono ?_
            rintro e wb ⟨rfl, hb⟩
            go_wp2_with fail
            refine hK.out _ _ (hb) (fun hS2 => ?_)
            clear hK K
            try simp only [Act.put, pkA, pkB, pkC]
            refine pkT 15 26 hS2 ?_
            try simp only [Act.put, pkA, pkB, pkC]
            refine pkT 16 27 hS2 ?_
            try simp only [Act.put, pkA, pkB, pkC]
            refine pkT 17 28 hS2 ?_
            try simp only [Act.put, pkA, pkB, pkC]
            refine pkT 18 29 hS2 ?_
            try simp only [Act.put, pkA, pkB, pkC]
            refine pkT 19 30 hS2 ?_
            try simp only [Act.put, pkA, pkB, pkC]
            refine pkT 20 31 hS2 ?_
            try simp only [Act.put, pkA, pkB, pkC]
            refine pkU 21 32 hS2 ?_
            try simp only [Act.put, pkA, pkB, pkC]
            refine pkU 22 33 hS2 ?_
            try simp only [Act.put, pkA, pkB, pkC]
            refine pkU 23 34 hS2 ?_
            try simp only [Act.put, pkA, pkB, pkC]
            refine pkU 24 35 hS2 ?_
            try simp only [Act.put, pkA, pkB, pkC]
            refine pkU 25 36 hS2 ?_
            try simp only [Act.put, pkA, pkB, pkC]
            refine pkU 26 37 hS2 ?_
            try simp only [Act.put, pkA, pkB, pkC]
            refine pkU 27 38 hS2 ?_
            try simp only [Act.put, pkA, pkB, pkC]
            refine pkU 28 39 hS2 ?_
            try simp only [Act.put, pkA, pkB, pkC]
            refine pkU 29 40 hS2 ?_
            try simp only [Act.put, pkA, pkB, pkC]
            refine pkU 30 41 hS2 ?_
            try simp only [Act.put, pkA, pkB, pkC]
            refine pkU 31 42 hS2 ?_
            try simp only [Act.put, pkA, pkB, pkC]
            refine pkU 32 43 hS2 ?_
            try simp only [Act.put, pkA, pkB, pkC]
            refine pkU 33 44 hS2 ?_
            try simp only [Act.put, pkA, pkB, pkC]
            refine pkU 34 45 hS2 ?_
            try simp only [Act.put, pkA, pkB, pkC]
            refine pkT 35 46 hS2 ?_
            try simp only [Act.put, pkA, pkB, pkC]
            refine pkT 36 47 hS2 ?_
            try simp only [Act.put, pkA, pkB, pkC]
            refine wpAnyH_done (by kernel_rfl) ?_ _
            have HU3 := Lib.hid (And.intro (HBx.out.2.trans (hb.mono HBx.out.2.size)) HU2.out)
            clear hb y3 c0 c1 c2 c3 N3
            go_wp2
            go_roundw
            case rel => exact ⟨k + 1, by go_num, by omega, HU3⟩
            case measure => simp [intOf]; omega
    · obtain rfl : k = n := by omega
      have k1 : ¬ (k : Int) < (k : Int) := by omega
      have HG : Hid (zonesB t.zones = decide (k ≤ 20)) := Lib.hid (by
        have h1 := HU.out.2
        have h2 : t.zones.length = k := HLn.out
        rw [← h2] at h1
        rw [h1.all, h2])
      have x2 := hbx.cell 2
      have x3 := hbx.cell 3
      have HBx := Lib.hid hwr
      clear hwr hbx
      by_cases h5 : k ≤ 20
      · have d5 : (k : Int) ≤ 20 := by omega
        rw [decide_eq_true h5] at HG
        by_cases r0 : 0 ≤ t.round
        · by_cases r2 : t.round ≤ 2
          · have HZ0 : Hid (taxB t = true) := Lib.hid (by rw [HZ.out, HG.out, decide_eq_true r0, decide_eq_true r2]; rfl)
            go_wp2
            go_ret
            exact ⟨by rw [HZ0.out]; rfl, HBx.out⟩
          · have HZ0 : Hid (taxB t = false) := Lib.hid (by rw [HZ.out, HG.out, decide_eq_true r0, decide_eq_false r2]; rfl)
            go_wp2
            go_ret
            exact ⟨by rw [HZ0.out]; rfl, HBx.out⟩
        · have HZ0 : Hid (taxB t = false) := Lib.hid (by rw [HZ.out, HG.out, decide_eq_false r0]; rfl)
          go_wp2
          go_ret
          exact ⟨by rw [HZ0.out]; rfl, HBx.out⟩
      · have d5 : ¬ (k : Int) ≤ 20 := by omega
        rw [decide_eq_false h5] at HG
        have HZ0 : Hid (taxB t = false) := Lib.hid (by rw [HZ.out, HG.out]; rfl)
        go_wp2
        go_ret
        exact ⟨by rw [HZ0.out]; rfl, HBx.out⟩
end Go.Proofs.YtfcmhgneijipgaaGreat.Ru
