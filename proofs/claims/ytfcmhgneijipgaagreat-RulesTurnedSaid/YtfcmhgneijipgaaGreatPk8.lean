/- The landed rules: rates and zones among which one may be wrong; wrongZone; Tax. (made by wip/gen-rules13.py) · The landed rules: kinds of tenders, none of them twice. · The document's goods: Goods, Find. -/
import Derived.Test.YtfcmhgneijipgaaGreatPk2
import Derived.Test.YtfcmhgneijipgaaGreatPk3
import Derived.Test.YtfcmhgneijipgaaGreatPk6
import Derived.Test.YtfcmhgneijipgaaGreatPk7

section
set_option maxRecDepth 100000
set_option linter.unusedVariables false
namespace Go.Proofs.YtfcmhgneijipgaaGreat.Ru
open Go.ChangeShapes Go.WideShapes Go.ChangeAt Go.RowKit
open Ap (CtR Zon Txs Shp Pol Rls kCtR kZon row_CtR row_Zon)
open Kd (Row Lst Sl Fit Agree kInt row_int)
set_option maxHeartbeats 2000000 in
theorem badIndexR_any (A : Option Addr) (n c : Nat) (xs : List CtR) (w : World) (h : Row kCtR w (· < w.heap.size) A n xs)  (hn : n ≤ 1000000000000) :
    Calls Tryz.prog 134 #[.slice A n c, .func (.func 81) #[] #[]] w fun e w' => (∃ r : Int, e = .returned (.int .i64 r) ∧ ((0 ≤ r ∧ ∃ (i : Nat) (x : CtR), xs[i]? = some x ∧ inB x.rate 10000 = false) ∨ (r = -1 ∧ ∀ (i : Nat) (x : CtR), xs[i]? = some x → inB x.rate 10000 = true))) ∧ Below w.heap.size w w' := by
  have HL := Lib.hid h.len
  have HR := Lib.hid (And.intro h trivial)
  clear h 
  go_enter Tryz.func134, Tryz.ntmps134
  go_wp2
  go_loopw [8] (fun s8 wr => ∃ k : Nat, s8 = .int .i64 k ∧ k ≤ n ∧ Hid (Below w.heap.size w wr ∧ ∀ (i : Nat) (x : CtR), i < k → xs[i]? = some x → inB x.rate 10000 = true)) (fun s8 _ => n - (intOf s8).toNat)
  case atStart => exact ⟨0, rfl, by omega, Lib.hid ⟨Below.refl _ _, fun i x hi => by omega⟩⟩
  case round =>
    obtain ⟨k, rfl, hk, HK⟩ := hrel
    by_cases hlt : k < n
    · obtain ⟨p, hx⟩ := HR.out.1.get hlt
      obtain ⟨g, o, rfl, _, _, hh, c0, c1⟩ := row_CtR (HR.out.1.below HK.out.1 (Nat.le_refl _)) hx
      have k1 : (k : Int) < (n : Int) := by omega
      have k0 : (0 : Int) ≤ (k : Int) := by omega
      have HC := Lib.hid (wrongRate_any p wr)
      have HX := Lib.hid hx
      clear hx hh
      cases hB : inB p.rate 10000 with
      | true =>
        rw [hB] at HC
        have HB := Lib.hid hB
        clear hB
        go_wp2_with fail
        refine HC.out.mono ?_
        rintro e w1 ⟨rfl, hb⟩
        have HK2 : Hid (Below w.heap.size w w1 ∧ ∀ (i : Nat) (x : CtR), i < k + 1 → xs[i]? = some x → inB x.rate 10000 = true) := Lib.hid ⟨HK.out.1.trans (hb.mono HK.out.1.size), fun i y hi hy => by
          rcases Nat.lt_or_ge i k with h1 | h1
          · exact HK.out.2 i y h1 hy
          · obtain rfl : i = k := by omega
            rw [HX.out] at hy
            injection hy with hy
            subst hy
            exact HB.out⟩
        clear hb
        go_wp2
        go_roundw
        case rel => exact ⟨k + 1, by go_num, by omega, HK2⟩
        case measure => simp [intOf]; omega
      | false =>
        rw [hB] at HC
        have HB := Lib.hid hB
        clear hB
        go_wp2_with fail
        refine HC.out.mono ?_
        rintro e w1 ⟨rfl, hb⟩
        have HK2 := Lib.hid (HK.out.1.trans (hb.mono HK.out.1.size))
        clear hb
        go_wp2
        go_ret
        exact ⟨⟨k, rfl, .inl ⟨by omega, k, p, HX.out, HB.out⟩⟩, HK2.out⟩
    · have k1 : ¬ (k : Int) < (n : Int) := by omega
      go_wp2
      go_ret
      exact ⟨⟨-1, rfl, .inr ⟨rfl, fun i x hx => HK.out.2 i x (by
        have := (List.getElem?_eq_some_iff.1 hx).1
        have := HL.out
        omega) hx⟩⟩, HK.out.1⟩
theorem anyBadR_any (A : Option Addr) (n c : Nat) (xs : List CtR) (w : World) (h : Row kCtR w (· < w.heap.size) A n xs)  (hn : n ≤ 1000000000000) :
    Calls Tryz.prog 80 #[.slice A n c, .func (.func 81) #[] #[]] w fun e w' => e = .returned (.bool (xs.any fun x => !inB x.rate 10000)) ∧ Below w.heap.size w w' := by
  have HC := Lib.hid (badIndexR_any A n c xs w h  hn)
  clear h
  go_enter Tryz.func80, Tryz.ntmps80
  go_wp2_with fail
  refine HC.out.mono ?_
  rintro e w1 ⟨⟨r, rfl, hr⟩, hb⟩
  have HB := Lib.hid hb
  clear hb
  rcases hr with ⟨h0, i, x, hx, hi⟩ | ⟨rfl, hA⟩
  · have HX : Hid ((xs.any fun x => !inB x.rate 10000) = true) := Lib.hid (List.any_eq_true.2 ⟨x, List.mem_of_getElem? hx, by simp [hi]⟩)
    clear hx hi
    go_wp2
    go_ret
    exact ⟨by rw [HX.out]; rfl, HB.out⟩
  · have HX : Hid ((xs.any fun x => !inB x.rate 10000) = false) := Lib.hid (any_no.2 hA)
    clear hA
    go_wp2
    go_ret
    exact ⟨by rw [HX.out]; rfl, HB.out⟩
set_option maxHeartbeats 4000000 in
theorem wrongZone_any (x : Zon) (l : Zon.Lay) (w : World) (hh : Zon.Holds w (· < w.heap.size) x l) (hn : l.rates.n ≤ 1000000000000) :
    Calls Tryz.prog 43 #[.agg #[.string x.name, .slice l.rates.A l.rates.n l.rates.c, .int .i64 x.rest, .int .i64 x.ship]] w fun e w' => e = .returned (.bool (!zoneB x)) ∧ Below w.heap.size w w' := by
  obtain ⟨W1, hW1⟩ : ∃ W1, w.alloc (.cells #[.string x.name, .slice l.rates.A l.rates.n l.rates.c, .int .i64 x.rest, .int .i64 x.ship] 41) = W1 := ⟨_, rfl⟩
  have hB : Below w.heap.size w W1 := by rw [← hW1]; exact (Below.refl _ _).alloc (Nat.le_refl _) _
  have hbx : Qu.Blk W1 w.heap.size 41 #[.string x.name, .slice l.rates.A l.rates.n l.rates.c, .int .i64 x.rest, .int .i64 x.ship] := by rw [← hW1]; exact Qu.Blk.new w _ _
  have HO1 : Hid (∀ W, Below W1.heap.size W1 W → Calls Tryz.prog 78 #[.slice l.rates.A l.rates.n l.rates.c, .func (.func 79) #[] #[]] W fun e w' => e = .returned (.bool (namesB CtR.cat x.rates)) ∧ Below W1.heap.size W1 w') := Lib.hid fun W hW =>
    (risesR_any l.rates.A l.rates.n l.rates.c x.rates W (hh.rates.row.below (Below.trans hB (hW.mono hB.size)) (Nat.le_refl _) |>.more fun b hb => Nat.lt_of_lt_of_le hb (Nat.le_trans hB.size hW.size)) hn).mono fun e w' he => ⟨he.1, Hk.andThen hW (by first | exact he.2 | (rw [he.2]; exact Below.refl _ _))⟩
  have HO2 : Hid (∀ W, Below W1.heap.size W1 W → Calls Tryz.prog 80 #[.slice l.rates.A l.rates.n l.rates.c, .func (.func 81) #[] #[]] W fun e w' => e = .returned (.bool (x.rates.any fun y => !inB y.rate 10000)) ∧ Below W1.heap.size W1 w') := Lib.hid fun W hW =>
    (anyBadR_any l.rates.A l.rates.n l.rates.c x.rates W (hh.rates.row.below (Below.trans hB (hW.mono hB.size)) (Nat.le_refl _) |>.more fun b hb => Nat.lt_of_lt_of_le hb (Nat.le_trans hB.size hW.size)) hn).mono fun e w' he => ⟨he.1, Hk.andThen hW (by first | exact he.2 | (rw [he.2]; exact Below.refl _ _))⟩
  have HO3 : Hid (∀ W, Below W1.heap.size W1 W → Calls Tryz.prog 73 #[.int .i64 x.rest] W fun e w' => e = .returned (.bool (inB x.rest 10000)) ∧ Below W1.heap.size W1 w') := Lib.hid fun W hW =>
    (rateRight_any x.rest W).mono fun e w' he => ⟨he.1, Hk.andThen hW (by first | exact he.2 | (rw [he.2]; exact Below.refl _ _))⟩
  have HO4 : Hid (∀ W, Below W1.heap.size W1 W → Calls Tryz.prog 73 #[.int .i64 x.ship] W fun e w' => e = .returned (.bool (inB x.ship 10000)) ∧ Below W1.heap.size W1 w') := Lib.hid fun W hW =>
    (rateRight_any x.ship W).mono fun e w' he => ⟨he.1, Hk.andThen hW (by first | exact he.2 | (rw [he.2]; exact Below.refl _ _))⟩
  have x0 := hbx.cell 0
  have x1 := hbx.cell 1
  have x2 := hbx.cell 2
  have x3 := hbx.cell 3
  have HB := Lib.hid (And.intro hB hbx)
  have HZ : Hid ((!zoneB x) = (decide (40 < l.rates.n) || !namesB CtR.cat x.rates || (x.rates.any fun y => !inB y.rate 10000) || !inB x.rest 10000 || !inB x.ship 10000)) := Lib.hid (by unfold zoneB; rw [rates_split, ← hh.rates.row.len]; rcases Nat.lt_or_ge 40 x.rates.length with hq | hq; (have h2 : ¬ x.rates.length ≤ 40 := by omega); simp [hq, h2]; (have h2 : ¬ 40 < x.rates.length := by omega); simp [hq, h2, Bool.or_assoc])
  obtain ⟨v0, hv0⟩ : ∃ b, (decide (40 < l.rates.n)) = b := ⟨_, rfl⟩
  simp only [hv0] at HZ
  obtain ⟨v1, hv1⟩ : ∃ b, (namesB CtR.cat x.rates) = b := ⟨_, rfl⟩
  simp only [hv1] at HO1 HZ
  obtain ⟨v2, hv2⟩ : ∃ b, (x.rates.any fun y => !inB y.rate 10000) = b := ⟨_, rfl⟩
  simp only [hv2] at HO2 HZ
  obtain ⟨v3, hv3⟩ : ∃ b, (inB x.rest 10000) = b := ⟨_, rfl⟩
  simp only [hv3] at HO3 HZ
  obtain ⟨v4, hv4⟩ : ∃ b, (inB x.ship 10000) = b := ⟨_, rfl⟩
  simp only [hv4] at HO4 HZ
  clear hv1 hv2 hv3 hv4 hbx hB hh
  go_enter Tryz.func43, Tryz.ntmps43
  cases v0 with
  | true =>
    have q1 : (40 : Int) < (l.rates.n : Int) := by have := of_decide_eq_true hv0; omega
    go_wp2
    go_ret
    exact ⟨by rw [HZ.out]; rfl, HB.out.1⟩
  | false =>
    have q1 : ¬ (40 : Int) < (l.rates.n : Int) := by have := of_decide_eq_false hv0; omega
    go_wp2_with fail
    refine (HO1.out _ (Below.refl _ _)).mono ?_
    rintro e wz1 ⟨rfl, hz1⟩
    have x0 := (HB.out.2.below hz1).cell 0
    have x1 := (HB.out.2.below hz1).cell 1
    have x2 := (HB.out.2.below hz1).cell 2
    have x3 := (HB.out.2.below hz1).cell 3
    cases v1 with
    | false =>
      go_wp2
      go_ret
      exact ⟨by rw [HZ.out]; rfl, HB.out.1.trans (hz1.mono HB.out.1.size)⟩
    | true =>
      go_wp2_with fail
      refine (HO2.out _ hz1).mono ?_
      rintro e wz2 ⟨rfl, hz2⟩
      have x0 := (HB.out.2.below hz2).cell 0
      have x1 := (HB.out.2.below hz2).cell 1
      have x2 := (HB.out.2.below hz2).cell 2
      have x3 := (HB.out.2.below hz2).cell 3
      cases v2 with
      | true =>
        go_wp2
        go_ret
        exact ⟨by rw [HZ.out]; rfl, HB.out.1.trans (hz2.mono HB.out.1.size)⟩
      | false =>
        go_wp2_with fail
        refine (HO3.out _ hz2).mono ?_
        rintro e wz3 ⟨rfl, hz3⟩
        have x0 := (HB.out.2.below hz3).cell 0
        have x1 := (HB.out.2.below hz3).cell 1
        have x2 := (HB.out.2.below hz3).cell 2
        have x3 := (HB.out.2.below hz3).cell 3
        cases v3 with
        | false =>
          go_wp2
          go_ret
          exact ⟨by rw [HZ.out]; rfl, HB.out.1.trans (hz3.mono HB.out.1.size)⟩
        | true =>
          go_wp2_with fail
          refine (HO4.out _ hz3).mono ?_
          rintro e wz4 ⟨rfl, hz4⟩
          have x0 := (HB.out.2.below hz4).cell 0
          have x1 := (HB.out.2.below hz4).cell 1
          have x2 := (HB.out.2.below hz4).cell 2
          have x3 := (HB.out.2.below hz4).cell 3
          cases v4 with
          | false =>
            go_wp2
            go_ret
            exact ⟨by rw [HZ.out]; rfl, HB.out.1.trans (hz4.mono HB.out.1.size)⟩
          | true =>
            go_wp2
            go_ret
            exact ⟨by rw [HZ.out]; rfl, HB.out.1.trans (hz4.mono HB.out.1.size)⟩
set_option maxHeartbeats 2000000 in
theorem badIndexZ_any (A : Option Addr) (n c : Nat) (xs : List Zon) (w : World) (h : Row kZon w (· < w.heap.size) A n xs) (hS : ZonesSmall xs) (hn : n ≤ 1000000000000) :
    Calls Tryz.prog 77 #[.slice A n c, .func (.func 43) #[] #[]] w fun e w' => (∃ r : Int, e = .returned (.int .i64 r) ∧ ((0 ≤ r ∧ ∃ (i : Nat) (x : Zon), xs[i]? = some x ∧ zoneB x = false) ∨ (r = -1 ∧ ∀ (i : Nat) (x : Zon), xs[i]? = some x → zoneB x = true))) ∧ Below w.heap.size w w' := by
  have HL := Lib.hid h.len
  have HR := Lib.hid (And.intro h hS)
  clear h hS
  go_enter Tryz.func77, Tryz.ntmps77
  go_wp2
  go_loopw [8] (fun s8 wr => ∃ k : Nat, s8 = .int .i64 k ∧ k ≤ n ∧ Hid (Below w.heap.size w wr ∧ ∀ (i : Nat) (x : Zon), i < k → xs[i]? = some x → zoneB x = true)) (fun s8 _ => n - (intOf s8).toNat)
  case atStart => exact ⟨0, rfl, by omega, Lib.hid ⟨Below.refl _ _, fun i x hi => by omega⟩⟩
  case round =>
    obtain ⟨k, rfl, hk, HK⟩ := hrel
    by_cases hlt : k < n
    · obtain ⟨p, hx⟩ := HR.out.1.get hlt
      obtain ⟨g, o, l, rfl, _, _, hh, c0, c1, c2, c3⟩ := row_Zon (HR.out.1.below HK.out.1 (Nat.le_refl _)) hx
      have k1 : (k : Int) < (n : Int) := by omega
      have k0 : (0 : Int) ≤ (k : Int) := by omega
      have hh2 : Zon.Holds wr (· < wr.heap.size) p l := ⟨hh.name, hh.rates.more fun b hb => Nat.lt_of_lt_of_le hb HK.out.1.size, hh.rest, hh.ship⟩
      have HC := Lib.hid (wrongZone_any p l wr hh2 (by have := HR.out.2 k p hx; have h2 := hh.rates.row.len; omega))
      have HX := Lib.hid hx
      clear hx hh hh2
      cases hB : zoneB p with
      | true =>
        rw [hB] at HC
        have HB := Lib.hid hB
        clear hB
        go_wp2_with fail
        refine HC.out.mono ?_
        rintro e w1 ⟨rfl, hb⟩
        have HK2 : Hid (Below w.heap.size w w1 ∧ ∀ (i : Nat) (x : Zon), i < k + 1 → xs[i]? = some x → zoneB x = true) := Lib.hid ⟨HK.out.1.trans (hb.mono HK.out.1.size), fun i y hi hy => by
          rcases Nat.lt_or_ge i k with h1 | h1
          · exact HK.out.2 i y h1 hy
          · obtain rfl : i = k := by omega
            rw [HX.out] at hy
            injection hy with hy
            subst hy
            exact HB.out⟩
        clear hb
        go_wp2
        go_roundw
        case rel => exact ⟨k + 1, by go_num, by omega, HK2⟩
        case measure => simp [intOf]; omega
      | false =>
        rw [hB] at HC
        have HB := Lib.hid hB
        clear hB
        go_wp2_with fail
        refine HC.out.mono ?_
        rintro e w1 ⟨rfl, hb⟩
        have HK2 := Lib.hid (HK.out.1.trans (hb.mono HK.out.1.size))
        clear hb
        go_wp2
        go_ret
        exact ⟨⟨k, rfl, .inl ⟨by omega, k, p, HX.out, HB.out⟩⟩, HK2.out⟩
    · have k1 : ¬ (k : Int) < (n : Int) := by omega
      go_wp2
      go_ret
      exact ⟨⟨-1, rfl, .inr ⟨rfl, fun i x hx => HK.out.2 i x (by
        have := (List.getElem?_eq_some_iff.1 hx).1
        have := HL.out
        omega) hx⟩⟩, HK.out.1⟩
theorem anyBadZ_any (A : Option Addr) (n c : Nat) (xs : List Zon) (w : World) (h : Row kZon w (· < w.heap.size) A n xs) (hS : ZonesSmall xs) (hn : n ≤ 1000000000000) :
    Calls Tryz.prog 42 #[.slice A n c, .func (.func 43) #[] #[]] w fun e w' => e = .returned (.bool (xs.any fun x => !zoneB x)) ∧ Below w.heap.size w w' := by
  have HC := Lib.hid (badIndexZ_any A n c xs w h hS hn)
  clear h
  go_enter Tryz.func42, Tryz.ntmps42
  go_wp2_with fail
  refine HC.out.mono ?_
  rintro e w1 ⟨⟨r, rfl, hr⟩, hb⟩
  have HB := Lib.hid hb
  clear hb
  rcases hr with ⟨h0, i, x, hx, hi⟩ | ⟨rfl, hA⟩
  · have HX : Hid ((xs.any fun x => !zoneB x) = true) := Lib.hid (List.any_eq_true.2 ⟨x, List.mem_of_getElem? hx, by simp [hi]⟩)
    clear hx hi
    go_wp2
    go_ret
    exact ⟨by rw [HX.out]; rfl, HB.out⟩
  · have HX : Hid ((xs.any fun x => !zoneB x) = false) := Lib.hid (any_no.2 hA)
    clear hA
    go_wp2
    go_ret
    exact ⟨by rw [HX.out]; rfl, HB.out⟩
set_option maxHeartbeats 4000000 in
theorem tax_any (x : Txs) (l : Txs.Lay) (w : World) (hh : Txs.Holds w (· < w.heap.size) x l) (hS : ZonesSmall x.zones) (hn : l.zones.n ≤ 1000000000000) :
    Calls Tryz.prog 13 #[.agg #[.bool x.incl, .bool x.byOrder, .int .i64 x.round, .slice l.zones.A l.zones.n l.zones.c]] w fun e w' => e = .returned (.bool (taxB x)) ∧ Below w.heap.size w w' := by
  obtain ⟨W1, hW1⟩ : ∃ W1, w.alloc (.cells #[.bool x.incl, .bool x.byOrder, .int .i64 x.round, .slice l.zones.A l.zones.n l.zones.c] 26) = W1 := ⟨_, rfl⟩
  have hB : Below w.heap.size w W1 := by rw [← hW1]; exact (Below.refl _ _).alloc (Nat.le_refl _) _
  have hbx : Qu.Blk W1 w.heap.size 26 #[.bool x.incl, .bool x.byOrder, .int .i64 x.round, .slice l.zones.A l.zones.n l.zones.c] := by rw [← hW1]; exact Qu.Blk.new w _ _
  have HO0 : Hid (∀ W, Below W1.heap.size W1 W → Calls Tryz.prog 39 #[.int .i64 x.round, .int .i64 0, .int .i64 2] W fun e w' => e = .returned (.bool (Pm.inR x.round 0 2)) ∧ Below W1.heap.size W1 w') := Lib.hid fun W hW =>
    (within_any x.round 0 2 W).mono fun e w' he => ⟨he.1, Hk.andThen hW (by first | exact he.2 | (rw [he.2]; exact Below.refl _ _))⟩
  have HO2 : Hid (∀ W, Below W1.heap.size W1 W → Calls Tryz.prog 40 #[.slice l.zones.A l.zones.n l.zones.c, .func (.func 41) #[] #[]] W fun e w' => e = .returned (.bool (namesB Zon.name x.zones)) ∧ Below W1.heap.size W1 w') := Lib.hid fun W hW =>
    (risesZ_any l.zones.A l.zones.n l.zones.c x.zones W (hh.zones.row.below (Below.trans hB (hW.mono hB.size)) (Nat.le_refl _) |>.more fun b hb => Nat.lt_of_lt_of_le hb (Nat.le_trans hB.size hW.size)) hn).mono fun e w' he => ⟨he.1, Hk.andThen hW (by first | exact he.2 | (rw [he.2]; exact Below.refl _ _))⟩
  have HO3 : Hid (∀ W, Below W1.heap.size W1 W → Calls Tryz.prog 42 #[.slice l.zones.A l.zones.n l.zones.c, .func (.func 43) #[] #[]] W fun e w' => e = .returned (.bool (x.zones.any fun y => !zoneB y)) ∧ Below W1.heap.size W1 w') := Lib.hid fun W hW =>
    (anyBadZ_any l.zones.A l.zones.n l.zones.c x.zones W (hh.zones.row.below (Below.trans hB (hW.mono hB.size)) (Nat.le_refl _) |>.more fun b hb => Nat.lt_of_lt_of_le hb (Nat.le_trans hB.size hW.size)) hS hn).mono fun e w' he => ⟨he.1, Hk.andThen hW (by first | exact he.2 | (rw [he.2]; exact Below.refl _ _))⟩
  have x0 := hbx.cell 0
  have x1 := hbx.cell 1
  have x2 := hbx.cell 2
  have x3 := hbx.cell 3
  have HB := Lib.hid (And.intro hB hbx)
  have HZ : Hid ((taxB x) = (Pm.inR x.round 0 2 && decide (l.zones.n ≤ 20) && namesB Zon.name x.zones && !(x.zones.any fun y => !zoneB y))) := Lib.hid (by unfold taxB Pm.inR; rw [zones_split, ← hh.zones.row.len]; rw [Bool.and_comm]; simp [Bool.and_assoc])
  obtain ⟨v0, hv0⟩ : ∃ b, (Pm.inR x.round 0 2) = b := ⟨_, rfl⟩
  simp only [hv0] at HO0 HZ
  obtain ⟨v1, hv1⟩ : ∃ b, (decide (l.zones.n ≤ 20)) = b := ⟨_, rfl⟩
  simp only [hv1] at HZ
  obtain ⟨v2, hv2⟩ : ∃ b, (namesB Zon.name x.zones) = b := ⟨_, rfl⟩
  simp only [hv2] at HO2 HZ
  obtain ⟨v3, hv3⟩ : ∃ b, (x.zones.any fun y => !zoneB y) = b := ⟨_, rfl⟩
  simp only [hv3] at HO3 HZ
  clear hv0 hv2 hv3 hbx hB hh
  go_enter Tryz.func13, Tryz.ntmps13
  go_wp2_with fail
  refine (HO0.out _ (Below.refl _ _)).mono ?_
  rintro e wz0 ⟨rfl, hz0⟩
  have x0 := (HB.out.2.below hz0).cell 0
  have x1 := (HB.out.2.below hz0).cell 1
  have x2 := (HB.out.2.below hz0).cell 2
  have x3 := (HB.out.2.below hz0).cell 3
  cases v0 with
  | false =>
    go_wp2
    go_ret
    exact ⟨by rw [HZ.out]; rfl, HB.out.1.trans (hz0.mono HB.out.1.size)⟩
  | true =>
    cases v1 with
    | false =>
      have q1 : ¬ (l.zones.n : Int) ≤ (20 : Int) := by have := of_decide_eq_false hv1; omega
      go_wp2
      go_ret
      exact ⟨by rw [HZ.out]; rfl, HB.out.1.trans (hz0.mono HB.out.1.size)⟩
    | true =>
      have q1 : (l.zones.n : Int) ≤ (20 : Int) := by have := of_decide_eq_true hv1; omega
      go_wp2_with fail
      refine (HO2.out _ hz0).mono ?_
      rintro e wz2 ⟨rfl, hz2⟩
      have x0 := (HB.out.2.below hz2).cell 0
      have x1 := (HB.out.2.below hz2).cell 1
      have x2 := (HB.out.2.below hz2).cell 2
      have x3 := (HB.out.2.below hz2).cell 3
      cases v2 with
      | false =>
        go_wp2
        go_ret
        exact ⟨by rw [HZ.out]; rfl, HB.out.1.trans (hz2.mono HB.out.1.size)⟩
      | true =>
        go_wp2_with fail
        refine (HO3.out _ hz2).mono ?_
        rintro e wz3 ⟨rfl, hz3⟩
        have x0 := (HB.out.2.below hz3).cell 0
        have x1 := (HB.out.2.below hz3).cell 1
        have x2 := (HB.out.2.below hz3).cell 2
        have x3 := (HB.out.2.below hz3).cell 3
        cases v3 with
        | true =>
          go_wp2
          go_ret
          exact ⟨by rw [HZ.out]; rfl, HB.out.1.trans (hz3.mono HB.out.1.size)⟩
        | false =>
          go_wp2
          go_ret
          exact ⟨by rw [HZ.out]; rfl, HB.out.1.trans (hz3.mono HB.out.1.size)⟩
end Go.Proofs.YtfcmhgneijipgaaGreat.Ru

end

section
set_option maxRecDepth 100000
set_option linter.unusedVariables false
namespace Go.Proofs.YtfcmhgneijipgaaGreat.Ru
open Go.ChangeShapes Go.WideShapes Go.ChangeAt Go.RowKit
open Kd (Row Lst Sl Fit Agree kInt row_int)
structure Seen (w wr : World) (b : Nat) (xs : List Int) (k : Nat) : Prop where
  below : Below w.heap.size w wr
  blk : ∃ cur : Array Value, Qu.Blk wr b 126 cur ∧ cur.size = 10 ∧ ∀ j, j < 10 → cur[j]? = some (.bool ((xs.take k).any (· == (j : Int))))
  low : w.heap.size ≤ b
  up : KUp xs k
theorem Seen.cell {w wr : World} {b : Nat} {xs : List Int} {k q : Nat} (h : Seen w wr b xs k) (hq : q < 10) : wr.cell? ⟨b, q, none⟩ = some (.bool ((xs.take k).any (· == (q : Int)))) ∧ wr.frozen? ⟨b, q, none⟩ = false := by
  obtain ⟨cur, hb, hs, hc⟩ := h.blk
  exact ⟨(hb.cell q).trans (hc q hq), hb.frozen q⟩
theorem none_twice {xs : List Int} {k : Nat} {x : Int} (h : (xs.take k).any (· == x) = false) : ∀ (i : Nat) (y : Int), i < k → xs[i]? = some y → y ≠ x := fun i y hi hy e => by
  rw [List.any_eq_false] at h
  exact h y (List.mem_of_getElem? (l := xs.take k) (i := i) (by rw [List.getElem?_take, if_pos hi]; exact hy)) (by simp [e])
theorem Seen.next {w wr : World} {b : Nat} {xs : List Int} {k q : Nat} (h : Seen w wr b xs k) (hx : xs[k]? = some (q : Int)) (hq : 1 ≤ q ∧ q ≤ 9) (hn : (xs.take k).any (· == (q : Int)) = false) : Seen w (wr.setCell ⟨b, q, none⟩ (.bool true)) b xs (k + 1) := by
  obtain ⟨cur, hb, hs, hc⟩ := h.blk
  refine ⟨Kd.below_set h.low h.below, ⟨_, hb.put q _, by simp [hs], fun j hj => ?_⟩, h.low, h.up.next hx (by omega) (none_twice hn)⟩
  rw [Array.getElem?_setIfInBounds, List.take_add_one, hx, List.any_append]
  by_cases e : q = j
  · subst e
    simp [hs]
    omega
  · rw [if_neg e, hc j hj]
    have : ((q : Int) == (j : Int)) = false := by simp; omega
    simp [this]
theorem kinds_bad {xs : List Int} {k : Nat} {x : Int} (hx : xs[k]? = some x) (h : Pm.inR x 1 9 = false) : kindsB xs = false :=
  kindsB_no fun hk => by
    have := hk.each k x hx
    unfold Pm.inR at h
    rw [decide_eq_true this.1, decide_eq_true this.2] at h
    cases h
theorem kinds_twice {xs : List Int} {k : Nat} {x : Int} (hx : xs[k]? = some x) (h : (xs.take k).any (· == x) = true) : kindsB xs = false :=
  kindsB_no fun hk => by
    rw [List.any_eq_true] at h
    obtain ⟨y, hy, e⟩ := h
    obtain ⟨i, hi⟩ := List.mem_iff_getElem?.1 hy
    rw [List.getElem?_take] at hi
    split at hi
    · next hlt => exact hk.apart i k y x hlt hi hx (by simpa using e)
    · cases hi
set_option maxHeartbeats 2000000 in
theorem kindsRight_any (A : Option Addr) (n c : Nat) (xs : List Int) (w : World) (h : Row kInt w (· < w.heap.size) A n xs) (hn : n ≤ 1000000000000) :
    Calls Tryz.prog 74 #[.slice A n c] w fun e w' => e = .returned (.bool (kindsB xs)) ∧ Below w.heap.size w w' := by
  obtain ⟨W1, hW1⟩ : ∃ W1, w.alloc (.cells #[.bool false, .bool false, .bool false, .bool false, .bool false, .bool false, .bool false, .bool false, .bool false, .bool false] 126) = W1 := ⟨_, rfl⟩
  have HS0 : Hid (Seen w W1 w.heap.size xs 0) := Lib.hid (by
    rw [← hW1]
    refine ⟨(Below.refl _ _).alloc (Nat.le_refl _) _, ⟨_, Qu.Blk.new w _ _, rfl, fun j hj => ?_⟩, Nat.le_refl _, KUp.begin _⟩
    rw [List.take_zero]
    match j, hj with
    | 0, _ => rfl
    | 1, _ => rfl
    | 2, _ => rfl
    | 3, _ => rfl
    | 4, _ => rfl
    | 5, _ => rfl
    | 6, _ => rfl
    | 7, _ => rfl
    | 8, _ => rfl
    | 9, _ => rfl)
  have HR := Lib.hid h
  have HL := Lib.hid h.len
  clear h
  go_enter Tryz.func74, Tryz.ntmps74
  go_wp2
  clear hW1
  go_loopw [8] (fun s8 wr => ∃ k : Nat, s8 = .int .i64 k ∧ k ≤ n ∧ Hid (Seen w wr w.heap.size xs k)) (fun s8 _ => n - (intOf s8).toNat)
  case atStart => exact ⟨0, rfl, by omega, HS0⟩
  case round =>
    clear HS0
    obtain ⟨k, rfl, hk, HU⟩ := hrel
    have k0 : (0 : Int) ≤ (k : Int) := by omega
    by_cases hlt : k < n
    · have k1 : (k : Int) < (n : Int) := by omega
      obtain ⟨x, hx⟩ := HR.out.get hlt
      obtain ⟨g, o, rfl, _, hgl, _, a0⟩ := row_int (HR.out.below HU.out.below (Nat.le_refl _)) hx
      have N1 := Lib.hid (fun W => within_any x 1 9 W)
      have HX := Lib.hid hx
      clear hx
      cases e1 : Pm.inR x 1 9 with
      | false =>
        rw [e1] at N1
        have HG := Lib.hid (kinds_bad HX.out e1)
        clear e1
        go_wp2_with fail
        refine (N1.out _).mono ?_
        rintro e w1 ⟨rfl, rfl⟩
        go_wp2
        go_ret
        exact ⟨by rw [HG.out]; rfl, HU.out.below⟩
      | true =>
        rw [e1] at N1
        obtain ⟨q, rfl, hq1, hq2⟩ : ∃ q : Nat, x = (q : Int) ∧ 1 ≤ q ∧ q ≤ 9 := by
          unfold Pm.inR at e1
          rw [Bool.and_eq_true, decide_eq_true_eq, decide_eq_true_eq] at e1
          exact ⟨x.toNat, by omega, by omega, by omega⟩
        have q0 : (0 : Int) ≤ (q : Int) := by omega
        have q1 : (q : Int) < 10 := by omega
        obtain ⟨y0, y1⟩ := HU.out.cell (q := q) (by omega)
        clear e1
        cases e2 : (xs.take k).any (· == (q : Int)) with
        | true =>
          rw [e2] at y0
          have HG := Lib.hid (kinds_twice HX.out e2)
          clear e2
          go_wp2_with fail
          refine (N1.out _).mono ?_
          rintro e w1 ⟨rfl, rfl⟩
          go_wp2
          go_ret
          exact ⟨by rw [HG.out]; rfl, HU.out.below⟩
        | false =>
          rw [e2] at y0
          have HU2 := Lib.hid (HU.out.next HX.out ⟨hq1, hq2⟩ e2)
          clear e2
          go_wp2_with fail
          refine (N1.out _).mono ?_
          rintro e w1 ⟨rfl, rfl⟩
          go_wp2
          go_roundw
          case rel => exact ⟨k + 1, by go_num, by omega, HU2⟩
          case measure => simp [intOf]; omega
    · have k1 : ¬ (k : Int) < (n : Int) := by omega
      have HG : Hid (kindsB xs = true) := Lib.hid (KUp.all (by have := HU.out.up; rw [show k = xs.length by have := HL.out; omega] at this; exact this))
      go_wp2
      go_ret
      exact ⟨by rw [HG.out]; rfl, HU.out.below⟩
end Go.Proofs.YtfcmhgneijipgaaGreat.Ru

end

section
set_option maxRecDepth 100000
set_option linter.unusedVariables false
namespace Go.Proofs.YtfcmhgneijipgaaGreat.Gd
open Go.ChangeShapes Go.WideShapes Go.ChangeAt Go.RowKit
open It (Itm kItem row_item row_ok)
open Kd (Row Fit)
theorem leq_any (a b : ByteArray) (W : World) : (binOp .leq 9 (.string a) (.string b)).run Tryz.prog W = .ok (.bool (!Sr.lt b a)) W := by
  have e : binOp .leq 9 (.string a) (.string b) = pure (.bool (Op.bytesLess a.toList b.toList || a.toList == b.toList)) := by simp [binOp, Op.stringOp]
  rw [e, Sr.le_iff]
  rfl
structure UpTo (xs : List Itm) (k : Nat) : Prop where
  each : ∀ (i : Nat) (x : Itm), i < k → xs[i]? = some x → itemB x = true
  rise : ∀ (i : Nat) (x y : Itm), i + 1 < k → xs[i]? = some x → xs[i + 1]? = some y → Sr.lt x.sku y.sku = true
theorem UpTo.next {xs : List Itm} {k : Nat} {x : Itm} (h : UpTo xs k) (hx : xs[k]? = some x) (hi : itemB x = true) (hr : ∀ y, 0 < k → xs[k - 1]? = some y → Sr.lt y.sku x.sku = true) : UpTo xs (k + 1) :=
  ⟨fun i y hlt hy => by
    rcases Nat.lt_or_ge i k with h1 | h1
    · exact h.each i y h1 hy
    · obtain rfl : i = k := by omega
      rw [hx] at hy; injection hy with hy; subst hy; exact hi,
   fun i y z hlt hy hz => by
    rcases Nat.lt_or_ge (i + 1) k with h1 | h1
    · exact h.rise i y z h1 hy hz
    · obtain rfl : k = i + 1 := by omega
      rw [hx] at hz; injection hz with hz; subst hz
      exact hr y (by omega) hy⟩
theorem UpTo.good {xs : List Itm} (h : UpTo xs xs.length) : goodB xs = decide (xs.length ≤ 500) := by
  by_cases h5 : xs.length ≤ 500
  · rw [decide_eq_true h5]
    exact goodB_yes ⟨h5, fun i x y hx hy => h.rise i x y (List.getElem?_eq_some_iff.1 hy).1 hx hy, fun i x hx => h.each i x (List.getElem?_eq_some_iff.1 hx).1 hx⟩
  · rw [decide_eq_false h5]
    exact goodB_no fun g => h5 g.few
theorem bad_item {xs : List Itm} {k : Nat} {x : Itm} (hx : xs[k]? = some x) (h : itemB x = false) : goodB xs = false := goodB_no fun g => by
  rw [g.each k x hx] at h; cases h
theorem bad_step {xs : List Itm} {k : Nat} {x y : Itm} (hx : xs[k]? = some x) (hy : xs[k - 1]? = some y) (hk : 0 < k) (h : Sr.lt y.sku x.sku = false) : goodB xs = false := goodB_no fun g => by
  rw [g.rise (k - 1) y x hy (by rw [show k - 1 + 1 = k by omega]; exact hx)] at h; cases h
set_option maxHeartbeats 2000000 in
theorem rgoods_any (A : Option Addr) (n c : Nat) (xs : List Itm) (F : Nat → Prop) (w : World) (h : Row kItem w F A n xs) (hn : n ≤ 1000000000000) :
    Calls Tryz.prog 35 #[.slice A n c] w fun e w' => e = .returned (.bool (goodB xs)) ∧ Hl.Drawn w w' := by
  have hlen := h.len
  have HH := Lib.hid h
  have HL := Lib.hid hlen
  clear h hlen
  go_enter Tryz.func35, Tryz.ntmps35
  go_wp2
  go_loopw [3] (fun s3 wr => ∃ k : Nat, s3 = .int .i64 k ∧ k ≤ n ∧ Hl.Drawn w wr ∧ UpTo xs k) (fun s3 _ => n - (intOf s3).toNat)
  case atStart => exact ⟨0, rfl, by omega, ⟨0, rfl⟩, ⟨fun i x hi => by omega, fun i x y hi => by omega⟩⟩
  case round =>
    obtain ⟨k, rfl, hk, hD, hU⟩ := hrel
    have HU := Lib.hid hU
    clear hU
    by_cases hlt : k < n
    · obtain ⟨x, hx⟩ := HH.out.get hlt
      obtain ⟨g, o, rfl, _, _, hok, a0, a1, a2, _⟩ := row_item HH.out hx
      have c0 : wr.cell? ⟨g, o + k * 4, none⟩ = some (.string x.sku) := by obtain ⟨d, rfl⟩ := hD; exact a0
      have c1 : wr.cell? ⟨g, o + k * 4 + 1, none⟩ = some (.string x.cat) := by obtain ⟨d, rfl⟩ := hD; exact a1
      have c2 : wr.cell? ⟨g, o + k * 4 + 2, none⟩ = some (.int .i64 x.price) := by obtain ⟨d, rfl⟩ := hD; exact a2
      have HX := Lib.hid hx
      have hib : itemB x = (Sr.name x.sku && Sr.name x.cat && (decide (0 ≤ x.price) && decide (x.price ≤ 1000000000))) := rfl
      have HI := Lib.hid hib
      have N1 := Lib.hid (fun W => Py.rname_any x.sku W hok.sku)
      have N2 := Lib.hid (fun W => Py.rname_any x.cat W hok.cat)
      have N3 := Lib.hid (fun W => Py.rin_any x.price 1000000000 W)
      have k1 : (k : Int) < (n : Int) := by omega
      have kk : (0 : Int) ≤ (k : Int) := by omega
      clear a0 a1 a2 hx hib hok
      cases n1 : Sr.name x.sku with
      | false =>
        rw [n1] at N1
        have HB := Lib.hid (bad_item HX.out (by rw [HI.out, n1]; rfl))
        have HD := Lib.hid hD
        clear n1 hD
        go_wp2_with fail
        go_quiet ((go_at_call 44; exact Calls.quiet_of_same (N1.out _)))
        go_wp2
        go_ret
        exact ⟨by rw [HB.out]; rfl, HD.out.more _⟩
      | true =>
        rw [n1] at N1
        cases n2 : Sr.name x.cat with
        | false =>
          rw [n2] at N2
          have HB := Lib.hid (bad_item HX.out (by rw [HI.out, n1, n2]; rfl))
          have HD := Lib.hid hD
          clear n1 n2 hD
          go_wp2_with fail
          go_quiet ((go_at_call 44; first | (with_reducible exact Calls.quiet_of_same (N1.out _)) | (with_reducible exact Calls.quiet_of_same (N2.out _))))
          go_wp2
          go_ret
          exact ⟨by rw [HB.out]; rfl, HD.out.more _⟩
        | true =>
          rw [n2] at N2
          cases n3 : (decide (0 ≤ x.price) && decide (x.price ≤ 1000000000)) with
          | false =>
            rw [n3] at N3
            have HB := Lib.hid (bad_item HX.out (by rw [HI.out, n1, n2, n3]; rfl))
            have HD := Lib.hid hD
            clear n1 n2 n3 hD
            go_wp2_with fail
            go_quiet (first | (go_at_call 44; first | (with_reducible exact Calls.quiet_of_same (N1.out _)) | (with_reducible exact Calls.quiet_of_same (N2.out _))) | (go_at_call 37; exact Calls.quiet_of_same (N3.out _)))
            go_wp2
            go_ret
            exact ⟨by rw [HB.out]; rfl, HD.out.more _⟩
          | true =>
            rw [n3] at N3
            have HG : Hid (itemB x = true) := Lib.hid (by rw [HI.out, n1, n2, n3]; rfl)
            clear n1 n2 n3
            by_cases k0 : 0 < k
            · obtain ⟨y, hy⟩ := HH.out.get (k := k - 1) (by omega)
              obtain ⟨g', o', hA, _, _, _, b1, _⟩ := row_item HH.out hy
              injection hA with hA
              injection hA with hA1 hA2
              subst hA1 hA2
              have d0 : wr.cell? ⟨g, o + (k - 1) * 4, none⟩ = some (.string y.sku) := by obtain ⟨d, rfl⟩ := hD; exact b1
              have HD := Lib.hid hD
              have HY := Lib.hid hy
              have j0 : (0 : Int) < (k : Int) := by omega
              have j1 : (0 : Int) ≤ (k : Int) - 1 := by omega
              have j2 : (k : Int) - 1 < (n : Int) := by omega
              have j3 : ((k : Int) - 1).toNat = k - 1 := by omega
              have hle := fun W => leq_any x.sku y.sku W
              clear hD b1 hy
              cases hB : Sr.lt y.sku x.sku with
              | true =>
                rw [hB] at hle
                have HU2 := Lib.hid (HU.out.next HX.out HG.out fun z _ hz => by
                  rw [HY.out] at hz; injection hz with hz; subst hz; exact hB)
                clear hB
                go_wp2_with fail
                go_quiet (first | (go_at_call 44; first | (with_reducible exact Calls.quiet_of_same (N1.out _)) | (with_reducible exact Calls.quiet_of_same (N2.out _))) | (go_at_call 37; exact Calls.quiet_of_same (N3.out _)))
                go_wp2
                go_roundw
                case rel => exact ⟨k + 1, by go_num, by omega, HD.out.more _, HU2.out⟩
                case measure => simp [intOf]; omega
              | false =>
                rw [hB] at hle
                have HB := Lib.hid (bad_step HX.out HY.out k0 hB)
                clear hB
                go_wp2_with fail
                go_quiet (first | (go_at_call 44; first | (with_reducible exact Calls.quiet_of_same (N1.out _)) | (with_reducible exact Calls.quiet_of_same (N2.out _))) | (go_at_call 37; exact Calls.quiet_of_same (N3.out _)))
                go_wp2
                go_ret
                exact ⟨by rw [HB.out]; rfl, HD.out.more _⟩
            · have j0 : ¬ (0 : Int) < (k : Int) := by omega
              have HU2 := Lib.hid (HU.out.next HX.out HG.out fun z h => by omega)
              have HD := Lib.hid hD
              clear hD
              go_wp2_with fail
              go_quiet (first | (go_at_call 44; first | (with_reducible exact Calls.quiet_of_same (N1.out _)) | (with_reducible exact Calls.quiet_of_same (N2.out _))) | (go_at_call 37; exact Calls.quiet_of_same (N3.out _)))
              go_wp2
              go_roundw
              case rel => exact ⟨k + 1, by go_num, by omega, HD.out.more _, HU2.out⟩
              case measure => simp [intOf]; omega
    · obtain rfl : k = n := by omega
      have k1 : ¬ (k : Int) < (k : Int) := by omega
      have HG : Hid (goodB xs = decide (k ≤ 500)) := Lib.hid (by
        have h1 := HU.out
        rw [← HL.out] at h1 ⊢
        exact h1.good)
      by_cases h5 : k ≤ 500
      · have d5 : (k : Int) ≤ 500 := by omega
        rw [decide_eq_true h5] at HG
        go_wp2
        go_ret
        exact ⟨by rw [HG.out]; rfl, hD⟩
      · have d5 : ¬ (k : Int) ≤ 500 := by omega
        rw [decide_eq_false h5] at HG
        go_wp2
        go_ret
        exact ⟨by rw [HG.out]; rfl, hD⟩
end Go.Proofs.YtfcmhgneijipgaaGreat.Gd

end
