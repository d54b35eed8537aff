/- Deals: the document's BuyGet, where something is done (made by gen-rbuyget16.py). -/
import Derived.Test.YtljmddjlnlmenaaGreatPq35
set_option maxRecDepth 100000
set_option linter.unusedVariables false

namespace Go.Proofs.YtljmddjlnlmenaaGreat.Dl
open Go.ChangeShapes Go.WideShapes Go.ChangeAt Go.RowKit
open Ap (Unt Tir Prm kUnt kTir row_Unt row_Tir)
open Kd (Kind Row RowT kInt kFlag row_int)
open Ko (Out Told Told2 At row_on)
open Ct (nth nth_some netAt netsL sumL sumL_append sumL_next halfN UnitsMay PlacesMay May mayB mayB_iff Far take_next lessU SumOk PlacesIn i64_t own_down told2_of)
set_option maxHeartbeats 4000000 in
theorem rbuyget_yes (p : Prm) (l : Prm.Lay) (A : Option Addr) (n c : Nat) (us : List Unt) (B : Option Addr) (m d : Nat) (ms : List Int) (w : World) (hPr : ∀ W, Below w.heap.size w W -> Calls Tryz.prog 31 #[.agg #[.string p.id, .int .i64 p.kind, .int .i64 p.priority, .string p.group, .string p.code, .bool p.closes, .slice l.scope.skus.A l.scope.skus.n l.scope.skus.c, .slice l.scope.cats.A l.scope.cats.n l.scope.cats.c, .int .i64 p.least, .int .i64 p.rate, .int .i64 p.amount, .int .i64 p.buy, .int .i64 p.get, .slice l.parts.A l.parts.n l.parts.c, .slice l.tiers.A l.tiers.n l.tiers.c]] W fun e w' => e = .returned (.bool (Pr.promoB p)) /\ Below W.heap.size W w') (h : Row kUnt w (· < w.heap.size) A n us) (hf : Kd.Fit A n c) (hg : Row kInt w (· < w.heap.size) B m ms) (hn : n <= 1000000000000) (hm : m <= 1000000000000) (hb : Pr.promoB p = true) (hk : p.kind = 3) (hmb : mayB us ms = true) :
    Calls Tryz.prog 12 #[.agg #[.string p.id, .int .i64 p.kind, .int .i64 p.priority, .string p.group, .string p.code, .bool p.closes, .slice l.scope.skus.A l.scope.skus.n l.scope.skus.c, .slice l.scope.cats.A l.scope.cats.n l.scope.cats.c, .int .i64 p.least, .int .i64 p.rate, .int .i64 p.amount, .int .i64 p.buy, .int .i64 p.get, .slice l.parts.A l.parts.n l.parts.c, .slice l.tiers.A l.tiers.n l.tiers.c], .slice A n c, .slice B m d] w fun e w' => Ko.Told2 kUnt 35 w e w' (buygetU p us ms).1 (buygetU p us ms).2 := by
  have HMy := mayB_iff.1 hmb
  have HAp : Hid (buygetU p us ms = lessU us (wholeL p us ms) (rowOffs p us ms) p.closes) := Lib.hid (by unfold buygetU; rw [hb, hmb, hk]; rfl)
  rw [hb] at hPr
  obtain ⟨w1, hw1⟩ : ∃ w1, w.alloc (.cells #[.string p.id, .int .i64 p.kind, .int .i64 p.priority, .string p.group, .string p.code, .bool p.closes, .slice l.scope.skus.A l.scope.skus.n l.scope.skus.c, .slice l.scope.cats.A l.scope.cats.n l.scope.cats.c, .int .i64 p.least, .int .i64 p.rate, .int .i64 p.amount, .int .i64 p.buy, .int .i64 p.get, .slice l.parts.A l.parts.n l.parts.c, .slice l.tiers.A l.tiers.n l.tiers.c] 28) = w1 := ⟨_, rfl⟩
  have hb1 : Below w.heap.size w w1 := by rw [<- hw1]; exact (Below.refl _ _).alloc (Nat.le_refl _) _
  have hx : Qu.Blk w1 w.heap.size 28 #[.string p.id, .int .i64 p.kind, .int .i64 p.priority, .string p.group, .string p.code, .bool p.closes, .slice l.scope.skus.A l.scope.skus.n l.scope.skus.c, .slice l.scope.cats.A l.scope.cats.n l.scope.cats.c, .int .i64 p.least, .int .i64 p.rate, .int .i64 p.amount, .int .i64 p.buy, .int .i64 p.get, .slice l.parts.A l.parts.n l.parts.c, .slice l.tiers.A l.tiers.n l.tiers.c] := by rw [<- hw1]; exact Qu.Blk.new w _ _
  have HK := Lib.hid (And.intro hb1 (fun u (hu : Below w1.heap.size w1 u) => hx.below hu))
  have HR := Lib.hid (fun W (hb : Below w1.heap.size w1 W) => hPr W (hb1.trans (hb.mono hb1.size)))
  have HM := Lib.hid (fun W (hb : Below w1.heap.size w1 W) => Ct.may_any A n c us B m d ms _ _ W (row_on (row_on h hb1) hb) hn (row_on (row_on hg hb1) hb) hm)
  have HU := Lib.hid (row_on h hb1)
  have HFi := Lib.hid hf
  simp only [hmb] at HM
  obtain ⟨hr0, hr1, hy0, hy1, hz0, hz1⟩ := buyget_kind hb hk
  have hn5 : n <= 100000 := by rw [<- h.len]; exact HMy.units.few
  have hm5 : m <= 100000 := by rw [<- hg.len]; exact Nat.le_trans HMy.places.few HMy.units.few
  have hin : PlacesIn n ms := by rw [<- h.len]; exact HMy.places.in_
  have hfi := rows_fine HMy hr1
  have hdi := hfi.apart.in_
  rw [h.len] at hdi
  have HDf := Lib.hid (fun W (hb : Below w1.heap.size w1 W) => rdear_any A n c us B m d ms W (row_on (row_on h hb1) hb) (row_on (row_on hg hb1) hb) hm5 hin HMy.places)
  have HU1 := Lib.hid (row_on h hb1)
  have hwl := whole_len p us ms
  have hdl := dearL_length us ms
  rw [hg.len] at hwl hdl
  obtain ⟨R, hR⟩ : ∃ R, rowN p = R := ⟨_, rfl⟩
  have hRs : p.buy + p.get = (R : Int) := by rw [<- hR]; unfold rowN; omega
  have hR1 : 1 <= R := by omega
  have wR : IntKind.i64.wrap (p.buy + p.get) = (R : Int) := by rw [hRs]; exact IntWalk.i64_in _ (by omega)
  rw [hR] at hwl
  obtain ⟨M, hM⟩ : ∃ M, m % R = M := ⟨_, rfl⟩
  have hMm : M <= m := by rw [<- hM]; exact Nat.mod_le _ _
  have tM : (m : Int).tmod (R : Int) = (M : Int) := rem_is m R M hM
  rw [hM] at hwl
  obtain ⟨k9, hk9⟩ : ∃ k9, m - M = k9 := ⟨_, rfl⟩
  rw [hk9] at hwl
  have wk : IntKind.i64.wrap ((m : Int) - (M : Int)) = (k9 : Int) := by rw [show (m : Int) - (M : Int) = (k9 : Int) by omega]; exact IntWalk.i64_in _ (by omega)
  have hwh : wholeL p us ms = (dearL us ms).take k9 := by unfold wholeL; rw [hg.len, hR, hM, hk9]
  obtain ⟨ds, hds⟩ : ∃ ds, wholeL p us ms = ds := ⟨_, rfl⟩
  have hro : rowOffs p us ms = offsFrom p us 0 ds := by unfold rowOffs; rw [hds]
  rw [hro] at hfi HAp
  rw [hds] at hwl hwh hdi hfi HAp
  have hko : k9 <= 100000 := by omega
  have HLe := Lib.hid (fun (W : World) (A4 : Option Addr) (c4 : Nat) (A7 : Option Addr) (c7 : Nat) (hb : Below w1.heap.size w1 W) (r1 : Row kInt W (· < W.heap.size) A4 k9 ds) (r2 : Row kInt W (· < W.heap.size) A7 k9 (offsFrom p us 0 ds)) => Ct.less_any A n c us A4 k9 c4 ds A7 k9 c7 _ p.closes W (row_on (row_on h hb1) hb) hf r1 r2 hn5 hko (Nat.le_refl _) hdi hfi.apart.toFar (hfi.sums HMy.units) (hfi.less HMy.units))
  have hsl := fun (A4 : Option Addr) (c4 : Nat) (hc : k9 <= c4) => Kd.slice_to (P := Tryz.prog) (sz := 1) Tryz.underlying36 (fun W => by kernel_rfl) A4 m c4 k9 hc
  have HSl := Lib.hid hsl
  have HRt := Lib.hid (fun (x : Int) (W : World) => Ct.half_any x p.rate W)
  have HLd := Lib.hid hwl
  have HWh := Lib.hid hwh
  have HDi := Lib.hid hdi
  have HRR := Lib.hid hR
  have HHf := Lib.hid (fun (x : Int) => Ct.halfN_ok x p.rate)
  have HKd := Lib.hid hk
  have HDl := Lib.hid hdl
  have cP : ∀ u, Below w1.heap.size w1 u -> u.cell? ⟨w.heap.size, 11, none⟩ = some (.int .i64 p.buy) := fun u hu => (HK.out.2 u hu).cell 11
  have cR : ∀ u, Below w1.heap.size w1 u -> u.cell? ⟨w.heap.size, 9, none⟩ = some (.int .i64 p.rate) := fun u hu => (HK.out.2 u hu).cell 9
  have x0 := hx.cell 0; have x1 := hx.cell 1; have x2 := hx.cell 2; have x3 := hx.cell 3; have x4 := hx.cell 4; have x5 := hx.cell 5; have x6 := hx.cell 6; have x7 := hx.cell 7; have x8 := hx.cell 8; have x9 := hx.cell 9; have x10 := hx.cell 10; have x11 := hx.cell 11; have x12 := hx.cell 12; have x13 := hx.cell 13; have x14 := hx.cell 14
  clear hPr h hf hg hn hm hb hb1 hx hk hmb HMy hr0 hr1 hin hfi hdi hwl hR hM hds hro hwh hsl hdl hRs
  go_enter Tryz.func12, Tryz.ntmps12
  go_wp2_with (first
    | (go_at_call 31; with_reducible refine (HR.out _ (Below.refl _ _)).mono ?_; rintro e w3 ⟨rfl, hb3⟩; have y1 := (HK.out.2 w3 hb3).cell 1; rw [HKd.out] at y1; have HO3 := Lib.hid hb3; clear hb3 x0 x1 x2 x3 x4 x5 x6 x7 x8 x9 x10 x11 x12 x13 x14)
    | (go_at_call 32; with_reducible refine (HM.out w3 HO3.out).mono ?_; rintro e w4 ⟨rfl, hd4⟩; have HO4 := Lib.hid (HO3.out.trans ((hd4.below w3.heap.size).mono HO3.out.size)); clear hd4))
  refine (HDf.out w4 HO4.out).mono ?_
  rintro e w5 ⟨A4, c4, rfl, ho5, hb5⟩
  rw [HDl.out] at ho5 ⊢
  have hc4 := ho5.fit.2.1
  have hsl := HSl.out A4 c4 (by omega)
  have HO5 := Lib.hid (And.intro ho5 (HO4.out.trans (hb5.mono HO4.out.size)))
  have y11 := (HK.out.2 w5 HO5.out.2).cell 11
  have y12 := (HK.out.2 w5 HO5.out.2).cell 12
  clear ho5 hb5 y1
  go_wp2_with fail
  have HDr : Hid (Row kInt w5 (· < w5.heap.size) A4 k9 ds) := Lib.hid (by rw [HWh.out]; exact HO5.out.1.read.take (by omega))
  clear y11 y12
  go_loopw [10, 11] (fun s10 s11 wr => ∃ k : Nat, s11 = .int .i64 k /\ k <= k9 /\ Hid (Out kInt 2 w5 wr s10 (offsFrom p us 0 (ds.take k)))) (fun _ s11 _ => k9 - (intOf s11).toNat)
  case atStart => exact ⟨0, rfl, by omega, Lib.hid (by rw [List.take_zero]; exact Out.nil _ _ (Below.refl _ _))⟩
  case round =>
    clear hsl
    obtain ⟨k, rfl, hk, HO⟩ := hrel
    have kk : (0 : Int) <= (k : Int) := by omega
    have HB := Lib.hid (HO5.out.2.trans (HO.out.below.mono HO5.out.2.size))
    by_cases hlt : k < k9
    . obtain ⟨t0, ht0⟩ := HDr.out.get hlt
      obtain ⟨x0, x1⟩ := HDi.out k t0 ht0
      obtain ⟨t, ht⟩ : ∃ t : Nat, t0 = (t : Int) := ⟨t0.toNat, by omega⟩
      subst ht
      have htn : t < n := by omega
      obtain ⟨u, hu⟩ := HU1.out.get htn
      obtain ⟨g1, o1, rfl, hg1, _, _, a1⟩ := row_int HDr.out ht0
      obtain ⟨g2, o2, rfl, hg2, _, _, _, b1, _⟩ := row_Unt HU1.out hu
      have d1 : ∀ u2, Below w5.heap.size w5 u2 -> u2.cell? ⟨g1, o1 + k, none⟩ = some (.int .i64 (t : Int)) := fun u2 hu2 => (hu2.cell (p := ⟨g1, _, none⟩) hg1).trans a1
      have d2 : ∀ u2, Below w5.heap.size w5 u2 -> u2.cell? ⟨g2, o2 + t * 3 + 1, none⟩ = some (.int .i64 u.net) := fun u2 hu2 => ((HO5.out.2.trans (hu2.mono HO5.out.2.size)).cell (p := ⟨g2, _, none⟩) hg2).trans b1
      have cP5 : ∀ u2, Below w5.heap.size w5 u2 -> u2.cell? ⟨w.heap.size, 11, none⟩ = some (.int .i64 p.buy) := fun u2 hu2 => cP u2 (HO5.out.2.trans (hu2.mono HO5.out.2.size))
      have cR5 : ∀ u2, Below w5.heap.size w5 u2 -> u2.cell? ⟨w.heap.size, 9, none⟩ = some (.int .i64 p.rate) := fun u2 hu2 => cR u2 (HO5.out.2.trans (hu2.mono HO5.out.2.size))
      clear cP cR
      obtain ⟨r, hr⟩ : ∃ r, k % R = r := ⟨_, rfl⟩
      have hR0 : ¬ R = 0 := by omega
      have tk : (k : Int).tmod (R : Int) = (r : Int) := rem_is k R r hr
      have hnet : netAt us (t : Int) = u.net := by unfold netAt; rw [Int.toNat_natCast, hu]
      have hnx := offsFrom_next (p := p) (us := us) ht0
      have hlen : (offsFrom p us 0 (ds.take k)).length = k := by rw [offsFrom_length, List.length_take, HLd.out]; omega
      have k1 : (k : Int) < (k9 : Int) := by omega
      have t0 : (0 : Int) <= (t : Int) := by omega
      have t1 : (t : Int) < (n : Int) := by omega
      obtain ⟨os, hos⟩ : ∃ os, offsFrom p us 0 (ds.take k) = os := ⟨_, rfl⟩
      rw [hos] at HO hnx hlen
      obtain ⟨C, e5, hv⟩ := HO.out.own.value
      rw [hlen] at hv
      subst hv
      have HLl := Lib.hid hlen
      have HNx := Lib.hid hnx
      have HN := Lib.hid hnet
      have HR2 := Lib.hid hr
      clear hu a1 b1 hg1 hg2 x0 x1 ht0 hnet hr hnx hlen hos
      by_cases hge : p.buy <= (r : Int)
      . obtain ⟨v, hv⟩ : ∃ v, halfN u.net p.rate = v := ⟨_, rfl⟩
        have HRv := Lib.hid (HRt.out u.net)
        simp only [hv] at HRv
        have hvr := HHf.out u.net
        rw [hv] at hvr
        have HEv : Hid (offsFrom p us 0 (ds.take (k + 1)) = os ++ [v]) := Lib.hid (by
          rw [HNx.out]
          unfold offAt
          rw [HRR.out, HR2.out, if_pos hge, HN.out, hv])
        have HVr : Hid (-9223372036854775808 <= v /\ v <= 9223372036854775807) := Lib.hid ⟨by omega, by omega⟩
        clear hv hvr
        go_wp2_with fail
        refine wp_region_held_drew (S := fun u => Below w5.heap.size w5 u) (by kernel_rfl) (HO.out.below.drew) (fun hS0 => ?_)
        refine pkT 0 52 hS0 ?_
        try simp only [Act.put, pkA, pkB, pkC]
        refine pkT 1 53 hS0 ?_
        try simp only [Act.put, pkA, pkB, pkC]
        refine pkT 2 54 hS0 ?_
        try simp only [Act.put, pkA, pkB, pkC]
        refine pkT 3 55 hS0 ?_
        try simp only [Act.put, pkA, pkB, pkC]
        refine pkT 4 56 hS0 ?_
        try simp only [Act.put, pkA, pkB, pkC]
        refine pkT 5 57 hS0 ?_
        try simp only [Act.put, pkA, pkB, pkC]
        refine wpAnyH_done (by kernel_rfl) ?_ _
        go_wp2_with fail
        refine wp_region_held_drew (S := fun u => Below w5.heap.size w5 u) (by kernel_rfl) (HO.out.below.drew.drew) (fun hS0 => ?_)
        refine pkT 0 58 hS0 ?_
        try simp only [Act.put, pkA, pkB, pkC]
        refine pkT 1 59 hS0 ?_
        try simp only [Act.put, pkA, pkB, pkC]
        refine pkT 2 60 hS0 ?_
        try simp only [Act.put, pkA, pkB, pkC]
        refine pkT 3 61 hS0 ?_
        try simp only [Act.put, pkA, pkB, pkC]
        refine pkT 4 62 hS0 ?_
        try simp only [Act.put, pkA, pkB, pkC]
        refine pkT 5 63 hS0 ?_
        try simp only [Act.put, pkA, pkB, pkC]
        refine pkT 6 64 hS0 ?_
        try simp only [Act.put, pkA, pkB, pkC]
        refine pkT 7 65 hS0 ?_
        try simp only [Act.put, pkA, pkB, pkC]
        refine pkT 8 66 hS0 ?_
        try simp only [Act.put, pkA, pkB, pkC]
        refine pkT 9 67 hS0 ?_
        try simp only [Act.put, pkA, pkB, pkC]
        refine wpAnyH_ready (rs := [10]) (by kernel_rfl) (by simp) ?_
        refine AllReadyH.cons (o := ⟨some 68, _, _, _, _, _⟩) rfl (fun K hK => ?_) AllReadyH.nil
        go_simp
        refine (HRv.out _).mono ?_
        rintro e wa ⟨rfl, hba⟩
        have hya : Below w5.heap.size w5 wa := (Below.trans hS0 (hba.mono (Below.size hS0)))
        have HOa := Lib.hid (Out.later HO.out ((Below.refl _ _).drew.drew.trans hba))
        have hown1 := HOa.out.own
        rw [HLl.out] at hown1
        have HOw1 := Lib.hid hown1
        have hlowa := HOa.out.below.size
        clear hba hown1
        go_wp2_with fail
        refine hK.out _ _ (hya) (fun hS1 => ?_)
        clear hK K
        try simp only [Act.put, pkA, pkB, pkC]
        refine pkT 11 12 hS1 ?_
        try simp only [Act.put, pkA, pkB, pkC]
        refine wpAnyH_done (by kernel_rfl) ?_ _
        go_wp2_with ((at_builtin; refine Kd.wpList_push (W := wa) (F := fun _ => False) (B := w5.heap.size) (n := k) (v := .slice C k e5) (xs := os) (y := v) (cs := [.int .i64 v]) i64_t rfl _ _ rfl rfl rfl rfl HOw1.out ⟨rfl, HVr.out⟩ (by omega) (by omega) (by omega) (fun _ h => h.elim) ?_; intro g5 cap w' hown hgrow hfr; have HPu := Lib.hid (HOa.out.push HLl.out hown hgrow); clear hown hgrow hfr))
        go_roundw
        case rel => exact ⟨k + 1, by go_num, by omega, Lib.hid (by rw [HEv.out]; exact HPu.out)⟩
        case measure => simp [intOf]; omega
      . have HE0 : Hid (offsFrom p us 0 (ds.take (k + 1)) = os ++ [0]) := Lib.hid (by
          rw [HNx.out]
          unfold offAt
          rw [HRR.out, HR2.out, if_neg hge])
        have HOd := Lib.hid (HO.out.later (Below.refl _ _).drew)
        have HOw0 : Hid (Kd.Own kInt wr.drew w5.heap.size 2 (fun _ => False) (.slice C k e5) k os) := Lib.hid (by have := HOd.out.own; rw [HLl.out] at this; exact this)
        have HZ0 : Hid (-9223372036854775808 <= (0 : Int) /\ (0 : Int) <= 9223372036854775807) := Lib.hid (by omega)
        go_wp2_with fail
        refine wp_region_held_drew (S := fun u => Below w5.heap.size w5 u) (by kernel_rfl) (HO.out.below.drew) (fun hS0 => ?_)
        refine pkT 0 52 hS0 ?_
        try simp only [Act.put, pkA, pkB, pkC]
        refine pkT 1 53 hS0 ?_
        try simp only [Act.put, pkA, pkB, pkC]
        refine pkT 2 54 hS0 ?_
        try simp only [Act.put, pkA, pkB, pkC]
        refine pkT 3 55 hS0 ?_
        try simp only [Act.put, pkA, pkB, pkC]
        refine pkT 4 56 hS0 ?_
        try simp only [Act.put, pkA, pkB, pkC]
        refine pkT 5 57 hS0 ?_
        try simp only [Act.put, pkA, pkB, pkC]
        refine wpAnyH_done (by kernel_rfl) ?_ _
        go_wp2_with ((at_builtin; refine Kd.wpList_push (W := wr.drew) (F := fun _ => False) (B := w5.heap.size) (n := k) (v := .slice C k e5) (xs := os) (y := 0) (cs := [.int .i64 0]) i64_t rfl _ _ rfl rfl rfl rfl HOw0.out ⟨rfl, HZ0.out⟩ (by omega) (by omega) (by have := HO.out.below.size; simpa using this) (fun _ h => h.elim) ?_; intro g5 cap w' hown hgrow hfr; have HPu := Lib.hid (HOd.out.push HLl.out hown hgrow); clear hown hgrow hfr))
        go_roundw
        case rel => exact ⟨k + 1, by go_num, by omega, Lib.hid (by rw [HE0.out]; exact HPu.out)⟩
        case measure => simp [intOf]; omega
    . have k1 : ¬ (k : Int) < (k9 : Int) := by omega
      obtain rfl : k = k9 := by omega
      have y5 := (HK.out.2 wr HB.out).cell 5
      have hfull : ds.take k = ds := List.take_of_length_le (by rw [HLd.out]; omega)
      rw [hfull] at HO
      have hlen : (offsFrom p us 0 ds).length = k := by rw [offsFrom_length, HLd.out]
      obtain ⟨A7, c7, hv7⟩ := HO.out.own.value
      rw [hlen] at hv7
      subst hv7
      have hrow : Row kInt wr (· < wr.heap.size) A7 k (offsFrom p us 0 ds) := by
        have := HO.out.own
        rw [hlen] at this
        exact this.read
      have HB2 := Lib.hid (HLe.out wr A4 c4 A7 c7 HB.out (row_on HDr.out HO.out.below) hrow)
      clear hrow hlen hfull
      go_wp2_with fail
      refine HB2.out.mono ?_
      rintro e w9 ⟨A9, c9, rfl, ho9, hb9⟩
      have HO9 := Lib.hid (And.intro ho9 hb9)
      clear ho9 hb9
      go_wp2
      refine bodyPost_ret (results_tmp2 rfl _ _ _) rfl ?_
      rw [HAp.out]
      have hB := HK.out.1.trans (HB.out.mono HK.out.1.size)
      exact told2_of (own_down HO9.out.1 hB.size) (hB.trans (HO9.out.2.mono hB.size)) _
theorem rbuyget_any (p : Prm) (l : Prm.Lay) (A : Option Addr) (n c : Nat) (us : List Unt) (B : Option Addr) (m d : Nat) (ms : List Int) (w : World) (hp : Ap.Prm.Holds w (· < w.heap.size) p l) (hS : Pr.PrmSmall p l) (h : Row kUnt w (· < w.heap.size) A n us) (hf : Kd.Fit A n c) (hg : Row kInt w (· < w.heap.size) B m ms) (hn : n <= 1000000000000) (hm : m <= 1000000000000) :
    Calls Tryz.prog 12 #[.agg #[.string p.id, .int .i64 p.kind, .int .i64 p.priority, .string p.group, .string p.code, .bool p.closes, .slice l.scope.skus.A l.scope.skus.n l.scope.skus.c, .slice l.scope.cats.A l.scope.cats.n l.scope.cats.c, .int .i64 p.least, .int .i64 p.rate, .int .i64 p.amount, .int .i64 p.buy, .int .i64 p.get, .slice l.parts.A l.parts.n l.parts.c, .slice l.tiers.A l.tiers.n l.tiers.c], .slice A n c, .slice B m d] w fun e w' => Ko.Told2 kUnt 35 w e w' (buygetU p us ms).1 (buygetU p us ms).2 := by
  have hPr := fun W (hb : Below w.heap.size w W) => Pr.rpromo_any p l W (Pr.holds_later hp hb) hS
  cases hb : Pr.promoB p with
  | false => exact rbuyget_bad p l A n c us B m d ms w hPr h hf hg hn hm hb
  | true =>
    by_cases hk : p.kind = 3
    . cases hmb : mayB us ms with
      | false => exact rbuyget_not p l A n c us B m d ms w hPr h hf hg hn hm hb hk hmb
      | true => exact rbuyget_yes p l A n c us B m d ms w hPr h hf hg hn hm hb hk hmb
    . exact rbuyget_kind p l A n c us B m d ms w hPr h hf hg hn hm hb hk
end Go.Proofs.YtljmddjlnlmenaaGreat.Dl
