/- P13.1: which zone, and which rate of it, any names have; for every tax, flag and two texts. No conditions. -/
import Derived.Test.YtfcmhgneijipgaaGreatPk0
import Derived.Test.YtfcmhgneijipgaaGreatPk42

set_option maxRecDepth 100000
namespace Go.Proofs.YtfcmhgneijipgaaGreat.rulesZones
open Go.ChangeShapes Go.WideShapes Go.ChangeAt Go.RowKit
open Ap (CtR Zon Txs Shp Pol Rls Prm kCtR kZon kPrm)
open Kd (Kind Row Own Cells Fit Agree Lst Sl kStr kInt kList row_str Deep High)
set_option maxRecDepth 100000
set_option linter.unusedVariables false
theorem own : ownKnob Tryz.prog.godebug = none := by kernel_rfl
set_option maxHeartbeats 20000000 in
theorem walk (w : World) (t : Txs) (l : Txs.Lay) (h0 : Txs.Holds w (· < w.heap.size) t l) (a1 : Bool) (s2 : ByteArray) (u2 : s2.size ≤ maxLen) (s3 : ByteArray) (u3 : s3.size ≤ maxLen) :
    Calls Tryz.prog 6 #[.agg #[.bool t.incl, .bool t.byOrder, .int .i64 t.round, .slice l.zones.A l.zones.n l.zones.c], .bool a1, .string s2, .string s3] w fun e w' => e = .returned (.bool true) ∧ Below w.heap.size w w' := by
  obtain ⟨⟨A, n, c⟩⟩ := l
  obtain ⟨W1, hW1⟩ : ∃ W1, w.alloc (.cells #[.bool t.incl, .bool t.byOrder, .int .i64 t.round, .slice A n c] 26) = W1 := ⟨_, rfl⟩
  have hb1 : Below w.heap.size w W1 := by rw [← hW1]; exact (Below.refl _ _).alloc (Nat.le_refl _) _
  have hblk : Qu.Blk W1 w.heap.size 26 #[.bool t.incl, .bool t.byOrder, .int .i64 t.round, .slice A n c] := by rw [← hW1]; exact Qu.Blk.new w _ _
  have HX1 : Hid (Ru.BoxT w W1 w.heap.size t ⟨⟨A, n, c⟩⟩) := Lib.hid ⟨hblk, ⟨h0.round, Ru.lst_on h0.zones hb1⟩, hb1⟩
  have HLn := Lib.hid h0.zones.row.len
  have hn2 : n ≤ 9223372036854775807 := by have := h0.zones.fit.2; dsimp only at this; omega
  have x3 : W1.cell? ⟨w.heap.size, 3, none⟩ = some (.slice A n c) := hblk.cell 3
  clear h0 hb1 hblk
  go_enter Tryz.func6, Tryz.ntmps6
  by_cases t0 : 40 < n
  · have q0 : (40 : Int) < ((n : Nat) : Int) := by omega
    have HA := Lib.hid (Ru.awake_any W1)
    go_wp2_with fail
    clear hW1
    refine HA.out.mono ?_
    rintro e w9 ⟨rfl, hb9⟩
    have HB9 := Lib.hid (HX1.out.below.trans (hb9.mono HX1.out.below.size))
    clear hb9
    go_wp2
    go_ret
    exact ⟨rfl, HB9.out⟩
  · have q0 : ¬ (40 : Int) < ((n : Nat) : Int) := by omega
    by_cases t1 : 60 < s2.size
    · have q1 : (60 : Int) < ((s2.size : Nat) : Int) := by omega
      go_wp2_with fail
      clear hW1
      have HA := Lib.hid (Ru.awake_any W1)
      refine HA.out.mono ?_
      rintro e w9 ⟨rfl, hb9⟩
      have HB9 := Lib.hid (HX1.out.below.trans (hb9.mono HX1.out.below.size))
      clear hb9
      go_wp2
      go_ret
      exact ⟨rfl, HB9.out⟩
    · have q1 : ¬ (60 : Int) < ((s2.size : Nat) : Int) := by omega
      by_cases t2 : 60 < s3.size
      · have q2 : (60 : Int) < ((s3.size : Nat) : Int) := by omega
        go_wp2_with fail
        clear hW1
        have HA := Lib.hid (Ru.awake_any W1)
        refine HA.out.mono ?_
        rintro e w9 ⟨rfl, hb9⟩
        have HB9 := Lib.hid (HX1.out.below.trans (hb9.mono HX1.out.below.size))
        clear hb9
        go_wp2
        go_ret
        exact ⟨rfl, HB9.out⟩
      · have q2 : ¬ (60 : Int) < ((s3.size : Nat) : Int) := by omega
        go_wp2
        clear hW1
        go_loopw [9] (fun s9 wr => ∃ k : Nat, s9 = .int .i64 k ∧ k ≤ n ∧ wr = W1 ∧ Hid (∀ (i : Nat) (z : Zon), i < k → t.zones[i]? = some z → z.rates.length ≤ 60)) (fun s9 _ => n - (intOf s9).toNat)
        case atStart => exact ⟨0, rfl, by omega, by trivial, Lib.hid fun i z hi => by omega⟩
        case round =>
          obtain ⟨k, rfl, hk, rfl, HZ⟩ := hrel
          have k0 : (0 : Int) ≤ (k : Int) := by omega
          by_cases hlt : k < n
          · have k1 : (k : Int) < (n : Int) := by omega
            obtain ⟨z, hz⟩ := HX1.out.holds.zones.row.get hlt
            obtain ⟨g, o, lz, hA, _, hgl, hok, b0, b1, b2, b3⟩ := Ap.row_Zon HX1.out.holds.zones.row hz
            have hA2 : A = some ⟨g, o, none⟩ := hA
            subst hA2
            have HX := Lib.hid hz
            have HLz := Lib.hid hok.rates.row.len
            clear hz hok hgl
            by_cases tz : 60 < lz.rates.n
            · have uz : (60 : Int) < (lz.rates.n : Int) := by omega
              have HA := Lib.hid (Ru.awake_any wr)
              go_wp2_with fail
              refine HA.out.mono ?_
              rintro e w9 ⟨rfl, hb9⟩
              have HB9 := Lib.hid (HX1.out.below.trans (hb9.mono HX1.out.below.size))
              clear hb9
              go_wp2
              go_ret
              exact ⟨rfl, HB9.out⟩
            · have uz : ¬ (60 : Int) < (lz.rates.n : Int) := by omega
              have HZ2 : Hid (∀ (i : Nat) (z : Zon), i < k + 1 → t.zones[i]? = some z → z.rates.length ≤ 60) := Lib.hid fun i y hi hy => by
                rcases Nat.lt_or_ge i k with h1 | h1
                · exact HZ.out i y h1 hy
                · obtain rfl : i = k := by omega
                  rw [HX.out] at hy
                  injection hy with hy
                  subst hy
                  have := HLz.out
                  omega
              go_wp2
              go_roundw
              case rel => exact ⟨k + 1, by go_num, by omega, by trivial, HZ2⟩
              case measure => simp [intOf]; omega
          · have k1 : ¬ (k : Int) < (n : Int) := by omega
            have HZs : Hid (Ru.ZonesSmall t.zones) := Lib.hid fun i z hz => by have h := HZ.out i z (by have := (List.getElem?_eq_some_iff.1 hz).1; have := HLn.out; omega) hz; omega
            obtain ⟨wo, hwo⟩ : ∃ wo : World, wo = wr := ⟨_, rfl⟩
            subst hwo
            clear HZ hlt
            have hsz : Hid (n ≤ 40) := Lib.hid (by omega)
            go_upto_if 46 with (fail)
            go_cut [2, 3] (fun s2' s3' wx => ∃ n' c' : ByteArray, s2' = .string n' ∧ s3' = .string c' ∧ Hid (∃ t' l', Ru.BoxT w wx w.heap.size t' l' ∧ Ru.ZonesSmall t'.zones ∧ l'.zones.n ≤ 40 ∧ (a1 = true → (Ru.zoneOf t'.zones n').isSome = true)))
            case first =>
              cases a1 with
              | false =>
                have HE : Hid (∃ t' l', Ru.BoxT w wo w.heap.size t' l' ∧ Ru.ZonesSmall t'.zones ∧ l'.zones.n ≤ 40 ∧ (false = true → (Ru.zoneOf t'.zones s2).isSome = true)) := Lib.hid ⟨t, _, HX1.out, HZs.out, hsz.out, fun h => by cases h⟩
                go_wp2
                go_meet
                exact ⟨s2, s3, rfl, rfl, HE⟩
              | true =>
                have HP := Lib.hid (Py.tax_near t ⟨⟨A, n, c⟩⟩ wo HX1.out.holds HZs.out (show n ≤ 1000000000000 by have := hsz.out; omega))
                have HN := Lib.hid (fun W => Ru.pzone_any (s2.size : Int) W)
                have HC := Lib.hid (fun W => Py.category_any (s3.size : Int) W)
                have x0 := HX1.out.blk.cell 0
                have x1 := HX1.out.blk.cell 1
                have x2 := HX1.out.blk.cell 2
                go_wp2_with fail
                refine HP.out.mono ?_
                rintro e w3 ⟨v, rfl, hz, hb3⟩
                obtain ⟨A3, c3, rfl⟩ := hz.value
                have hbx := HX1.out.blk.below hb3
                have x0 := hbx.cell 0
                have x1 := hbx.cell 1
                have x2 := hbx.cell 2
                have x3 := hbx.cell 3
                have xf := hbx.frozen
                obtain ⟨W9, hW9⟩ : ∃ W9, ((((w3.setCell ⟨w.heap.size, 0, none⟩ (.bool t.incl)).setCell ⟨w.heap.size, 1, none⟩ (.bool t.byOrder)).setCell ⟨w.heap.size, 2, none⟩ (.int .i64 (Py.modN t.round 3 : Int))).setCell ⟨w.heap.size, 3, none⟩ (.slice A3 3 c3)) = W9 := ⟨_, rfl⟩
                have hm := Py.modN_lt t.round 3 (by omega)
                have HX9 : Hid (Ru.BoxT w W9 w.heap.size (Py.taxOf t) ⟨⟨A3, 3, c3⟩⟩) := Lib.hid (HX1.out.store (t := Py.taxOf t) (Nat.le_refl _) hb3 ⟨by show -9223372036854775808 ≤ (Py.modN t.round 3 : Int); omega, by show (Py.modN t.round 3 : Int) ≤ 9223372036854775807; omega⟩ hz hW9)
                have hw9 := Lib.hid hW9
                clear hz hb3 hbx hW9 hm
                go_upto_region 10 with (fail)
                try rw [hw9.out]
                clear x0 x1 x2 x3 xf hw9
                go_wp2_with fail
                refine (HN.out _).mono ?_
                rintro e w5 ⟨rfl, hb5⟩
                have HX5 := Lib.hid (HX9.out.later hb5)
                clear hb5
                go_wp2_with fail
                refine (HC.out _).mono ?_
                rintro e w6 ⟨rfl, hb6⟩
                have HE : Hid (∃ t' l', Ru.BoxT w w6 w.heap.size t' l' ∧ Ru.ZonesSmall t'.zones ∧ l'.zones.n ≤ 40 ∧ (true = true → (Ru.zoneOf t'.zones (Py.zonS (Py.modN (s2.size : Int) 3))).isSome = true)) := Lib.hid ⟨_, _, HX5.out.later hb6, fun k z hk => by have := Py.taxOf_few t k z hk; omega, by show 3 ≤ 40; omega, fun _ => Ru.zone_found _ (by have := Py.modN_lt (s2.size : Int) 3 (by omega); omega)⟩
                clear hb6
                go_wp2
                go_meet
                exact ⟨_, _, rfl, rfl, HE⟩
            case rest =>
              obtain ⟨n', c', rfl, rfl, hc⟩ := hcut
              obtain ⟨t', ⟨⟨A', m', q'⟩⟩, hX, hsm, hm40, hf⟩ := hc.out
              have hm40 : m' ≤ 40 := hm40
              have HX := Lib.hid hX
              have HSm := Lib.hid hsm
              have HM := Lib.hid hm40
              have HZ := Lib.hid (Ru.zone_any t' ⟨⟨A', m', q'⟩⟩ n' wc hX.holds hsm (show m' ≤ _ by omega))
              have y0 := hX.blk.cell 0
              have y1 := hX.blk.cell 1
              have y2 := hX.blk.cell 2
              have y3 : wc.cell? ⟨w.heap.size, 3, none⟩ = some (.slice A' m' q') := hX.blk.cell 3
              have HFd := Lib.hid hf
              clear hX hsm hm40 hc hf x3 HX1 HZs hsz
              go_wp2_with fail
              refine HZ.out.mono ?_
              rintro e w5 hT
              obtain ⟨hb5, la, hla, rfl⟩ := hT.both
              obtain ⟨z, hz⟩ : ∃ z, Ru.zoneD t'.zones n' = z := ⟨_, rfl⟩
              have hzs := Ru.zoneD_small (s := n') HSm.out
              rw [hz] at hzs
              obtain ⟨f, hff⟩ : ∃ f, (Ru.zoneOf t'.zones n').isSome = f := ⟨_, rfl⟩
              rw [hz] at hla
              simp only [hz, hff]
              rw [hff] at HFd
              have HZf := Lib.hid (And.intro hz hff)
              clear hT hz hff
              obtain ⟨W6, hW6⟩ : ∃ W6, w5.alloc (.cells #[.string z.name, .slice la.rates.A la.rates.n la.rates.c, .int .i64 z.rest, .int .i64 z.ship] 41) = W6 := ⟨_, rfl⟩
              have hb6 : Below w5.heap.size w5 W6 := by rw [← hW6]; exact (Below.refl _ _).alloc (Nat.le_refl _) _
              have hba : Qu.Blk W6 w5.heap.size 41 #[.string z.name, .slice la.rates.A la.rates.n la.rates.c, .int .i64 z.rest, .int .i64 z.ship] := by rw [← hW6]; exact Qu.Blk.new w5 _ _
              have HX6 := Lib.hid ((HX.out.later hb5).later hb6)
              have HA6 : Hid (Qu.Blk W6 w5.heap.size 41 #[.string z.name, .slice la.rates.A la.rates.n la.rates.c, .int .i64 z.rest, .int .i64 z.ship] ∧ Ap.Zon.Holds W6 (· < W6.heap.size) z la) := Lib.hid ⟨hba, hla.name, Ru.lst_on hla.rates hb6, hla.rest, hla.ship⟩
              have HZr := Lib.hid (Ru.rzone_any t' ⟨⟨A', m', q'⟩⟩ n' W6 HX6.out.holds (show m' ≤ _ by have := HM.out; omega))
              have y0 := HX6.out.blk.cell 0
              have y1 := HX6.out.blk.cell 1
              have y2 := HX6.out.blk.cell 2
              have y3 : W6.cell? ⟨w.heap.size, 3, none⟩ = some (.slice A' m' q') := HX6.out.blk.cell 3
              have HZs := Lib.hid hzs
              clear hb5 hb6 hba hla hzs HZ
              go_wp2_with fail
              clear hW6
              refine HZr.out.mono ?_
              rintro e w7 hT
              obtain ⟨hb7, lb, hlb, rfl⟩ := hT.both
              rw [HZf.out.1] at hlb
              simp only [HZf.out.1, HZf.out.2]
              clear hT
              obtain ⟨W8, hW8⟩ : ∃ W8, w7.alloc (.cells #[.string z.name, .slice lb.rates.A lb.rates.n lb.rates.c, .int .i64 z.rest, .int .i64 z.ship] 41) = W8 := ⟨_, rfl⟩
              have hb8 : Below w7.heap.size w7 W8 := by rw [← hW8]; exact (Below.refl _ _).alloc (Nat.le_refl _) _
              have hbb : Qu.Blk W8 w7.heap.size 41 #[.string z.name, .slice lb.rates.A lb.rates.n lb.rates.c, .int .i64 z.rest, .int .i64 z.ship] := by rw [← hW8]; exact Qu.Blk.new w7 _ _
              have hb68 := hb7.trans (hb8.mono hb7.size)
              have HX8 := Lib.hid (HX6.out.later hb68)
              have HA8 : Hid (Qu.Blk W8 w5.heap.size 41 #[.string z.name, .slice la.rates.A la.rates.n la.rates.c, .int .i64 z.rest, .int .i64 z.ship] ∧ Ap.Zon.Holds W8 (· < W8.heap.size) z la) := Lib.hid ⟨HA6.out.1.below hb68, HA6.out.2.name, Ru.lst_on HA6.out.2.rates hb68, HA6.out.2.rest, HA6.out.2.ship⟩
              have HB8 : Hid (Qu.Blk W8 w7.heap.size 41 #[.string z.name, .slice lb.rates.A lb.rates.n lb.rates.c, .int .i64 z.rest, .int .i64 z.ship] ∧ Ap.Zon.Holds W8 (· < W8.heap.size) z lb) := Lib.hid ⟨hbb, hlb.name, Ru.lst_on hlb.rates hb8, hlb.rest, hlb.ship⟩
              have HAw := Lib.hid (Ru.awake_any W8)
              clear hb7 hb8 hbb hb68 hlb HZr y0 y1 y2 y3
              go_wp2_with fail
              clear hW8
              refine HAw.out.mono ?_
              rintro e w9 ⟨rfl, hb9⟩
              have HX9 := Lib.hid (HX8.out.later hb9)
              have hA9 := HA8.out.1.below hb9
              have hB9 := HB8.out.1.below hb9
              have HSa := Lib.hid (Ru.zone_same z z la lb (· < w9.heap.size) w9 ⟨HA8.out.2.name, Ru.lst_on HA8.out.2.rates hb9, HA8.out.2.rest, HA8.out.2.ship⟩ ⟨HB8.out.2.name, Ru.lst_on HB8.out.2.rates hb9, HB8.out.2.rest, HB8.out.2.ship⟩ (fun b hb => hb) (by have := HZs.out; omega))
              simp only [Ru.eqZ_refl2] at HSa
              have p0 : w9.cell? ⟨w5.heap.size, 0, none⟩ = some (.string z.name) := hA9.cell 0
              have r0 : w9.cell? ⟨w7.heap.size, 0, none⟩ = some (.string z.name) := hB9.cell 0
              have p1 : w9.cell? ⟨w5.heap.size, 1, none⟩ = some (.slice la.rates.A la.rates.n la.rates.c) := hA9.cell 1
              have r1 : w9.cell? ⟨w7.heap.size, 1, none⟩ = some (.slice lb.rates.A lb.rates.n lb.rates.c) := hB9.cell 1
              have p2 : w9.cell? ⟨w5.heap.size, 2, none⟩ = some (.int .i64 z.rest) := hA9.cell 2
              have r2 : w9.cell? ⟨w7.heap.size, 2, none⟩ = some (.int .i64 z.rest) := hB9.cell 2
              have p3 : w9.cell? ⟨w5.heap.size, 3, none⟩ = some (.int .i64 z.ship) := hA9.cell 3
              have r3 : w9.cell? ⟨w7.heap.size, 3, none⟩ = some (.int .i64 z.ship) := hB9.cell 3
              have e1 : (f != f) = false := by cases f <;> rfl
              clear hb9 hA9 hB9
              go_wp2_with fail
              refine HSa.out.mono ?_
              rintro e w10 ⟨rfl, hb10⟩
              have HXa := Lib.hid (HX9.out.later hb10)
              have y3 : w10.cell? ⟨w.heap.size, 3, none⟩ = some (.slice A' m' q') := HXa.out.blk.cell 3
              clear hb10 p0 r0 p1 r1 p2 r2 p3 r3 HA6 HA8 HB8 HX6 HX8 HX9 HSa HAw
              have hcase : a1 = false ∨ (a1 = true ∧ f = true) := by
                cases a1 with
                | false => exact .inl rfl
                | true => exact .inr ⟨rfl, HFd.out rfl⟩
              clear HFd HZf HZs
              rcases hcase with rfl | ⟨rfl, rfl⟩
              all_goals
                go_upto_region 15 with (fail)
                go_wp2
                clear y3
                go_loopw [14] (fun s14 wr => ∃ k : Nat, s14 = .int .i64 k ∧ k ≤ m' ∧ Hid (Below w10.heap.size w10 wr)) (fun s14 _ => m' - (intOf s14).toNat)
                case atStart => exact ⟨0, rfl, by omega, Lib.hid (Below.refl _ _)⟩
                case round =>
                  obtain ⟨k, rfl, hk, HW⟩ := hrel
                  have k0 : (0 : Int) ≤ (k : Int) := by omega
                  have HXw := Lib.hid (HXa.out.later HW.out)
                  have y3w : wr.cell? ⟨w.heap.size, 3, none⟩ = some (.slice A' m' q') := HXw.out.blk.cell 3
                  by_cases hlt : k < m'
                  · have k1 : (k : Int) < (m' : Int) := by omega
                    obtain ⟨y, hy⟩ := HXw.out.holds.zones.row.get hlt
                    obtain ⟨g, o, ly, hA, _, hgl, hok, b0, b1, b2, b3⟩ := Ap.row_Zon HXw.out.holds.zones.row hy
                    have hA2 : A' = some ⟨g, o, none⟩ := hA
                    obtain ⟨v, hv⟩ : ∃ v, Ru.rateOf y.rates c' y.rest = v := ⟨_, rfl⟩
                    have hsm2 : ly.rates.n ≤ 1000000000000 := by have := HSm.out k y hy; have h2 := hok.rates.row.len; omega
                    have N1 : Hid (∀ u, Below wr.heap.size wr u → Calls Tryz.prog 24 #[.agg #[.string y.name, .slice ly.rates.A ly.rates.n ly.rates.c, .int .i64 y.rest, .int .i64 y.ship], .string c'] u fun e w' => e = .returned (.int .i64 v) ∧ Below wr.heap.size wr w') := Lib.hid fun u hu => (Ru.rate_any y ly c' u ⟨hok.name, Ru.lst_on hok.rates hu, hok.rest, hok.ship⟩ hsm2).mono fun e w' he => ⟨by rw [he.1, hv], Hk.andThen hu he.2⟩
                    have N2 : Hid (∀ u, Below wr.heap.size wr u → Calls Tryz.prog 25 #[.agg #[.string y.name, .slice ly.rates.A ly.rates.n ly.rates.c, .int .i64 y.rest, .int .i64 y.ship], .string c'] u fun e w' => e = .returned (.int .i64 v) ∧ Below wr.heap.size wr w') := Lib.hid fun u hu => (Ru.rrate_any y ly c' u ⟨hok.name, Ru.lst_on hok.rates hu, hok.rest, hok.ship⟩ hsm2).mono fun e w' he => ⟨by rw [he.1, hv], Hk.andThen hu he.2⟩
                    have c3 : ∀ u, Below wr.heap.size wr u → u.cell? ⟨w.heap.size, 3, none⟩ = some (.slice (some ⟨g, o, none⟩) m' q') := fun u hu => by rw [← hA2]; exact (HXw.out.blk.below hu).cell 3
                    have d0 : ∀ u, Below wr.heap.size wr u → u.cell? ⟨g, o + k * 4, none⟩ = some (.string y.name) := fun u hu => (hu.cell (p := ⟨g, _, none⟩) hgl).trans b0
                    have d1 : ∀ u, Below wr.heap.size wr u → u.cell? ⟨g, o + k * 4 + 1, none⟩ = some (.slice ly.rates.A ly.rates.n ly.rates.c) := fun u hu => (hu.cell (p := ⟨g, _, none⟩) hgl).trans b1
                    have d2 : ∀ u, Below wr.heap.size wr u → u.cell? ⟨g, o + k * 4 + 2, none⟩ = some (.int .i64 y.rest) := fun u hu => (hu.cell (p := ⟨g, _, none⟩) hgl).trans b2
                    have d3 : ∀ u, Below wr.heap.size wr u → u.cell? ⟨g, o + k * 4 + 3, none⟩ = some (.int .i64 y.ship) := fun u hu => (hu.cell (p := ⟨g, _, none⟩) hgl).trans b3
                    have e3 : (v != v) = false := by simp
                    rw [hA2] at y3w
                    clear hy hA hA2 hgl hok b0 b1 b2 b3 hv hsm2
                    go_upto_region 18 with (fail)
                    refine wp_region_held_drew (S := fun u => Below wr.heap.size wr u) (by kernel_rfl) ((Below.refl _ _).drew) (fun hS0 => ?_)
                    refine pkT 0 94 hS0 ?_
                    try simp only [Act.put, pkA, pkB, pkC]
                    refine pkT 1 95 hS0 ?_
                    try simp only [Act.put, pkA, pkB, pkC]
                    refine pkT 2 96 hS0 ?_
                    try simp only [Act.put, pkA, pkB, pkC]
                    refine pkT 3 97 hS0 ?_
                    try simp only [Act.put, pkA, pkB, pkC]
                    refine pkT 4 98 hS0 ?_
                    try simp only [Act.put, pkA, pkB, pkC]
                    refine pkT 5 99 hS0 ?_
                    try simp only [Act.put, pkA, pkB, pkC]
                    refine pkT 7 101 hS0 ?_
                    try simp only [Act.put, pkA, pkB, pkC]
                    refine pkT 8 102 hS0 ?_
                    try simp only [Act.put, pkA, pkB, pkC]
                    refine pkT 9 103 hS0 ?_
                    try simp only [Act.put, pkA, pkB, pkC]
                    refine pkT 10 104 hS0 ?_
                    try simp only [Act.put, pkA, pkB, pkC]
                    refine pkT 11 105 hS0 ?_
                    try simp only [Act.put, pkA, pkB, pkC]
                    refine pkT 12 106 hS0 ?_
                    try simp only [Act.put, pkA, pkB, pkC]
                    refine wpAnyH_ready (rs := [6]) (by kernel_rfl) (by simp) ?_
                    refine AllReadyH.cons (o := ⟨some 100, _, _, _, _, _⟩) rfl (fun K hK => ?_) AllReadyH.nil
                    go_simp
                    refine (N1.out _ hS0).mono ?_
                    rintro e wa ⟨rfl, ha⟩
                    go_wp2_with fail
                    refine hK.out _ _ (ha) (fun hS1 => ?_)
                    clear hK K
                    try simp only [Act.put, pkA, pkB, pkC]
                    refine wpAnyH_ready (rs := [13]) (by kernel_rfl) (by simp) ?_
                    refine AllReadyH.cons (o := ⟨some 107, _, _, _, _, _⟩) rfl (fun K hK => ?_) AllReadyH.nil
                    go_simp
                    refine (N2.out _ hS1).mono ?_
                    rintro e wb ⟨rfl, hb⟩
                    go_wp2_with fail
                    refine hK.out _ _ (hb) (fun hS2 => ?_)
                    clear hK K
                    try simp only [Act.put, pkA, pkB, pkC]
                    refine pkT 14 108 hS2 ?_
                    try simp only [Act.put, pkA, pkB, pkC]
                    refine wpAnyH_done (by kernel_rfl) ?_ _
                    have HW9 := Lib.hid (HW.out.trans (Below.mono hS2 HW.out.size))
                    clear c3 d0 d1 d2 d3 y3w N1 N2
                    go_wp2
                    go_roundw
                    case rel => exact ⟨k + 1, by go_num, by omega, HW9⟩
                    case measure => simp [intOf]; omega
                  · have k1 : ¬ (k : Int) < (m' : Int) := by omega
                    go_wp2
                    go_ret
                    exact ⟨rfl, HXw.out.below⟩
set_option maxRecDepth 100000 in
theorem lifted (os : Os) (started : os.Started) (H : Type) (enc : TypeId × Value → H) :
    ReturnsInHanded {} Tryz.checked os 6 .any (Rows.rulesZonesSpec.pre6 enc Tryz.prog Tryz.f6 Rows.rulesZonesRow.domain false) (Rows.rulesZonesSpec.post enc Tryz.prog Tryz.f6 false true false false) := by
  refine returnsInHanded_of_change (C := Tryz.checked) own started (by kernel_rfl) Tryz.func6
    (ChangeSpec.witness6 (enc := enc) (C := Tryz.checked) false ⟨#[], #[.agg #[.bool false, .bool false, .int .i64 0, .slice none 0 0], .bool false, .string ⟨#[]⟩, .string ⟨#[]⟩], []⟩ 8 (by kernel_rfl) (by kernel_rfl) (by kernel_rfl) (by kernel_rfl)) ?_
  intro W base args ds gs before hval0 hW hcnd _
  have hval : ∀ (j : Nat) t v, Tryz.f6.params[j]? = some t → args[j]? = some v → Value.okWide Tryz.prog W .any base t v := hval0
  have hW' := hW
  obtain ⟨p, q, hA0, hV, rfl, hfz, hnd⟩ := hW
  have hA : DataW.TrodAll enc Tryz.prog W 0 (fun _ => true) true Tryz.f6.params.toList args.toList ds p := hA0
  rw [Tryz.params6] at hA hval
  obtain ⟨v0, vs0, d0, ds0, p0, q0, hargs, rfl, rfl, h0, r0⟩ := trodAll_cons hA
  obtain ⟨v1, vs1, d1, ds1, p1, q1, rfl, rfl, rfl, h1, r1⟩ := trodAll_cons r0
  obtain ⟨v2, vs2, d2, ds2, p2, q2, rfl, rfl, rfl, h2, r2⟩ := trodAll_cons r1
  obtain ⟨v3, vs3, d3, ds3, p3, q3, rfl, rfl, rfl, h3, r3⟩ := trodAll_cons r2
  obtain ⟨rfl, rfl, rfl⟩ := trodAll_nil r3
  obtain rfl : args = #[v0, v1, v2, v3] := by cases args; simp_all
  obtain ⟨cs0, p0, rfl, r0⟩ := Kd.open_struct Ap.reads_Txs Tryz.underlying26 (hval 0 26 v0 rfl rfl) h0; obtain ⟨l0, rfl, x0⟩ := Ap.Txs_rep.1 r0
  obtain ⟨a1, rfl, _, _⟩ := open_bool Tryz.underlying4 (hval 1 4 v1 rfl rfl) h1
  obtain ⟨s2, rfl, _, _, u2⟩ := Go.ChangeMaps.open_string Tryz.underlying9 (hval 2 9 v2 rfl rfl) h2
  obtain ⟨s3, rfl, _, _, u3⟩ := Go.ChangeMaps.open_string Tryz.underlying9 (hval 3 9 v3 rfl rfl) h3
  refine (walk W p0 l0 x0 a1 s2 u2 s3 u3).mono fun e W' ⟨he, hb⟩ => ?_
  subst he
  exact ⟨_, rfl, Hk.closeLaw (tb := 4) (by kernel_rfl) (by kernel_rfl) rfl rfl rfl Tryz.underlying4 hW' hb⟩
theorem over : Rows.rulesZonesRow.holds Tryz.pinned (OpenSpec.ofChange Rows.rulesZonesSpec) :=
  OpenClaim.holds_of_wide 6 Tryz.f6 rfl rfl rfl rfl rfl rfl rfl ⟨rfl, rfl, rfl, rfl, rfl⟩ rfl rfl rfl rfl rfl (by kernel_rfl) Tryz.func6 (by kernel_rfl)
    (of_decide_eq_true (by kernel_rfl)) (by unfold Func.isWrapper; first | (rw [if_pos (by decide +kernel)]; kernel_rfl) | (rw [if_neg (by decide +kernel)]; exact ⟨rfl, rfl⟩))
    (fun os started H enc _ => lifted os started H enc)
theorem proved : Rows.RulesZonesSaid :=
  over
end Go.Proofs.YtfcmhgneijipgaaGreat.rulesZones
