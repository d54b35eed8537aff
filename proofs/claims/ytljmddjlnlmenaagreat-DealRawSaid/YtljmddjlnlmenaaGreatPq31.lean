/- Deals: the landed BuyGet (made by gen-buyget16.py). · Deals: law 16's awake. · Deals: the document's dear (made by gen-r .. -/
import Derived.Deep.CutBlock
import Derived.Deep.DeepCutAuto
import Derived.Test.YtljmddjlnlmenaaGreatPq12
import Derived.Test.YtljmddjlnlmenaaGreatPq13
import Derived.Test.YtljmddjlnlmenaaGreatPq21
import Derived.Test.YtljmddjlnlmenaaGreatPq23
import Derived.Test.YtljmddjlnlmenaaGreatPq24
import Derived.Test.YtljmddjlnlmenaaGreatPq30
set_option maxRecDepth 100000
set_option linter.unusedVariables false

section
namespace Go.Proofs.YtljmddjlnlmenaaGreat.Dl
open Go.ChangeShapes Go.WideShapes Go.ChangeAt Go.RowKit
open Ap (Unt Tir Prm kUnt kTir row_Unt row_Tir)
open Kd (Kind Row RowT kInt kFlag row_int)
open Ko (Out Told Told2 At row_on)
open Ct (nth nth_some netAt netsL sumL sumL_append sumL_next halfN UnitsMay PlacesMay May mayB mayB_iff Far take_next lessU SumOk PlacesIn i64_t own_down told2_of)
theorem whole_length (p : Prm) (us : List Unt) (ms : List Int) : (wholeL p us ms).length = ms.length - ms.length % rowN p := by unfold wholeL; rw [List.length_take, dearL_length]; omega
set_option maxHeartbeats 4000000 in
theorem lbuyget_yes (p : Prm) (l : Prm.Lay) (A : Option Addr) (n c : Nat) (us : List Unt) (B : Option Addr) (m d : Nat) (ms : List Int) (w : World) (hPr : ∀ W, Below w.heap.size w W -> Calls Tryz.prog 25 #[.agg #[.string p.id, .int .i64 p.kind, .int .i64 p.priority, .string p.group, .string p.code, .bool p.closes, .slice l.scope.skus.A l.scope.skus.n l.scope.skus.c, .slice l.scope.cats.A l.scope.cats.n l.scope.cats.c, .int .i64 p.least, .int .i64 p.rate, .int .i64 p.amount, .int .i64 p.buy, .int .i64 p.get, .slice l.parts.A l.parts.n l.parts.c, .slice l.tiers.A l.tiers.n l.tiers.c]] W fun e w' => e = .returned (.bool (Pr.promoB p)) /\ Below W.heap.size W w') (h : Row kUnt w (· < w.heap.size) A n us) (hf : Kd.Fit A n c) (hg : Row kInt w (· < w.heap.size) B m ms) (hn : n <= 1000000000000) (hm : m <= 1000000000000) (hb : Pr.promoB p = true) (hk : p.kind = 3) (hmb : mayB us ms = true) :
    Calls Tryz.prog 11 #[.agg #[.string p.id, .int .i64 p.kind, .int .i64 p.priority, .string p.group, .string p.code, .bool p.closes, .slice l.scope.skus.A l.scope.skus.n l.scope.skus.c, .slice l.scope.cats.A l.scope.cats.n l.scope.cats.c, .int .i64 p.least, .int .i64 p.rate, .int .i64 p.amount, .int .i64 p.buy, .int .i64 p.get, .slice l.parts.A l.parts.n l.parts.c, .slice l.tiers.A l.tiers.n l.tiers.c], .slice A n c, .slice B m d] w fun e w' => Ko.Told2 kUnt 35 w e w' (buygetU p us ms).1 (buygetU p us ms).2 := by
  have HMy := mayB_iff.1 hmb
  have HAp : Hid (buygetU p us ms = lessU us (wholeL p us ms) (rowOffs p us ms) p.closes) := Lib.hid (by unfold buygetU; rw [hb, hmb, hk]; rfl)
  rw [hb] at hPr
  obtain ⟨w1, hw1⟩ : ∃ w1, w.alloc (.cells #[.string p.id, .int .i64 p.kind, .int .i64 p.priority, .string p.group, .string p.code, .bool p.closes, .slice l.scope.skus.A l.scope.skus.n l.scope.skus.c, .slice l.scope.cats.A l.scope.cats.n l.scope.cats.c, .int .i64 p.least, .int .i64 p.rate, .int .i64 p.amount, .int .i64 p.buy, .int .i64 p.get, .slice l.parts.A l.parts.n l.parts.c, .slice l.tiers.A l.tiers.n l.tiers.c] 28) = w1 := ⟨_, rfl⟩
  have hb1 : Below w.heap.size w w1 := by rw [<- hw1]; exact (Below.refl _ _).alloc (Nat.le_refl _) _
  have hx : Qu.Blk w1 w.heap.size 28 #[.string p.id, .int .i64 p.kind, .int .i64 p.priority, .string p.group, .string p.code, .bool p.closes, .slice l.scope.skus.A l.scope.skus.n l.scope.skus.c, .slice l.scope.cats.A l.scope.cats.n l.scope.cats.c, .int .i64 p.least, .int .i64 p.rate, .int .i64 p.amount, .int .i64 p.buy, .int .i64 p.get, .slice l.parts.A l.parts.n l.parts.c, .slice l.tiers.A l.tiers.n l.tiers.c] := by rw [<- hw1]; exact Qu.Blk.new w _ _
  have HK := Lib.hid (And.intro hb1 (fun u (hu : Below w1.heap.size w1 u) => hx.below hu))
  have HR := Lib.hid (fun W (hb : Below w1.heap.size w1 W) => hPr W (hb1.trans (hb.mono hb1.size)))
  have HM := Lib.hid (fun W (hb : Below w1.heap.size w1 W) => Ct.lmay_any A n c us B m d ms W (row_on (row_on h hb1) hb) hn (row_on (row_on hg hb1) hb) hm)
  simp only [hmb] at HM
  obtain ⟨hr0, hr1, hy0, hy1, hz0, hz1⟩ := buyget_kind hb hk
  have hn5 : n <= 100000 := by rw [<- h.len]; exact HMy.units.few
  have hm5 : m <= 100000 := by rw [<- hg.len]; exact Nat.le_trans HMy.places.few HMy.units.few
  have hin : PlacesIn n ms := by rw [<- h.len]; exact HMy.places.in_
  have hfi := rows_fine HMy hr1
  have hdi := hfi.apart.in_
  rw [h.len] at hdi
  have HDf := Lib.hid (fun W (hb : Below w1.heap.size w1 W) => dearestFirst_any A n c us B m d ms W (row_on (row_on h hb1) hb) (row_on (row_on hg hb1) hb) hm5 hin)
  have HU1 := Lib.hid (row_on h hb1)
  have hwl := whole_length p us ms
  have hdl := dearL_length us ms
  rw [hg.len] at hwl hdl
  obtain ⟨R, hR⟩ : ∃ R, rowN p = R := ⟨_, rfl⟩
  have hRs : p.buy + p.get = (R : Int) := by rw [<- hR]; unfold rowN; omega
  have hR1 : 1 <= R := by omega
  have wR : IntKind.i64.wrap (p.buy + p.get) = (R : Int) := by rw [hRs]; exact IntWalk.i64_in _ (by omega)
  rw [hR] at hwl
  obtain ⟨M, hM⟩ : ∃ M, m % R = M := ⟨_, rfl⟩
  have hMm : M <= m := by rw [<- hM]; exact Nat.mod_le _ _
  have tM : (m : Int).tmod (R : Int) = (M : Int) := rem_any m R M hM
  rw [hM] at hwl
  obtain ⟨k9, hk9⟩ : ∃ k9, m - M = k9 := ⟨_, rfl⟩
  rw [hk9] at hwl
  have wk : IntKind.i64.wrap ((m : Int) - (M : Int)) = (k9 : Int) := by rw [show (m : Int) - (M : Int) = (k9 : Int) by omega]; exact IntWalk.i64_in _ (by omega)
  have hwh : wholeL p us ms = (dearL us ms).take k9 := by unfold wholeL; rw [hg.len, hR, hM, hk9]
  obtain ⟨ds, hds⟩ : ∃ ds, wholeL p us ms = ds := ⟨_, rfl⟩
  have hro : rowOffs p us ms = offsFrom p us 0 ds := by unfold rowOffs; rw [hds]
  rw [hro] at hfi HAp
  rw [hds] at hwl hwh hdi hfi HAp
  have HBe := Lib.hid (fun (W : World) (A4 : Option Addr) (c4 g9 : Nat) (hb : Below w1.heap.size w1 W) (r1 : Row kInt W (· < W.heap.size) A4 k9 ds) (r2 : Row kInt W (· < W.heap.size) (some ⟨g9, 0, none⟩) k9 (offsFrom p us 0 ds)) => behind_any p l A n c us A4 k9 c4 ds (some ⟨g9, 0, none⟩) k9 k9 _ W (row_on (row_on h hb1) hb) hf r1 r2 HMy.units hfi)
  have hsl := fun (A4 : Option Addr) (c4 : Nat) (hc : k9 <= c4) => Kd.slice_to (P := Tryz.prog) (sz := 1) Tryz.underlying36 (fun W => by kernel_rfl) A4 m c4 k9 hc
  have HSl := Lib.hid hsl
  obtain ⟨Mz, hMz1, hMz2⟩ := made_full i64_t (.int .i64 0) rfl 0 (fun w F => ⟨rfl, by omega⟩) k9 (by omega) (by omega)
  have HMz := Lib.hid hMz2
  have HRt := Lib.hid (fun (x : Int) (W : World) => drate_any x p.rate W)
  have HLd := Lib.hid hwl
  have HWh := Lib.hid hwh
  have HDi := Lib.hid hdi
  have HRR := Lib.hid hR
  have HHf := Lib.hid (fun (x : Int) => Ct.halfN_ok x p.rate)
  have HKd := Lib.hid hk
  have HDl := Lib.hid hdl
  have cP : ∀ u, Below w1.heap.size w1 u -> u.cell? ⟨w.heap.size, 11, none⟩ = some (.int .i64 p.buy) := fun u hu => (HK.out.2 u hu).cell 11
  have cR : ∀ u, Below w1.heap.size w1 u -> u.cell? ⟨w.heap.size, 9, none⟩ = some (.int .i64 p.rate) := fun u hu => (HK.out.2 u hu).cell 9
  have hfree : ∀ i : Nat, i < 15 -> True := fun _ _ => trivial
  have x0 := hx.cell 0; have x1 := hx.cell 1; have x2 := hx.cell 2; have x3 := hx.cell 3; have x4 := hx.cell 4; have x5 := hx.cell 5; have x6 := hx.cell 6; have x7 := hx.cell 7; have x8 := hx.cell 8; have x9 := hx.cell 9; have x10 := hx.cell 10; have x11 := hx.cell 11; have x12 := hx.cell 12; have x13 := hx.cell 13; have x14 := hx.cell 14
  clear hPr h hf hg hn hm hb hb1 hx hk hmb HMy hr0 hr1 hin hfi hdi hwl hR hM hds hro hwh hMz2 hsl hdl hRs hfree
  go_enter Tryz.func11, Tryz.ntmps11
  go_wp2_with (first
    | (go_at_call 25; with_reducible refine (HR.out _ (Below.refl _ _)).mono ?_; rintro e w3 ⟨rfl, hb3⟩; have y1 := (HK.out.2 w3 hb3).cell 1; rw [HKd.out] at y1; have HO3 := Lib.hid hb3; clear hb3 x0 x1 x2 x3 x4 x5 x6 x7 x8 x9 x10 x11 x12 x13 x14)
    | (go_at_call 26; with_reducible refine (HM.out w3 HO3.out).mono ?_; rintro e w4 ⟨rfl, hb4⟩; have HO4 := Lib.hid (HO3.out.trans (hb4.mono HO3.out.size)); have y11 := (HK.out.2 w4 HO4.out).cell 11; have y12 := (HK.out.2 w4 HO4.out).cell 12; clear hb4))
  refine (HDf.out w4 HO4.out).mono ?_
  rintro e w5 ⟨A4, c4, rfl, ho5, hb5⟩
  rw [HDl.out] at ho5 ⊢
  have hc4 := ho5.fit.2.1
  have hsl := HSl.out A4 c4 (by omega)
  have HO5 := Lib.hid (And.intro ho5 (HO4.out.trans (hb5.mono HO4.out.size)))
  clear ho5 hb5 y1 y11 y12
  go_wp2_with fail
  have HDr : Hid (Row kInt w5 (· < w5.heap.size) A4 k9 ds) := Lib.hid (by rw [HWh.out]; exact HO5.out.1.read.take (by omega))
  have HNs0 : Hid (Ns w5 (w5.alloc (.cells Mz 2)) w5.heap.size k9 (offsUp p us ds 0)) := Lib.hid ⟨by rw [offsUp_zero, HLd.out]; exact HMz.out w5 w5.heap.size (Nat.le_refl _), (Below.refl _ _).alloc (Nat.le_refl _) _⟩
  go_loopw [51] (fun s51 wr => ∃ k : Nat, s51 = .int .i64 k /\ k <= k9 /\ Hid (Ns w5 wr w5.heap.size k9 (offsUp p us ds k))) (fun s51 _ => k9 - (intOf s51).toNat)
  case atStart => exact ⟨0, rfl, by omega, HNs0⟩
  case round =>
    clear HNs0 hsl hMz1
    obtain ⟨k, rfl, hk, HO⟩ := hrel
    have kk : (0 : Int) <= (k : Int) := by omega
    have HB := Lib.hid (HO5.out.2.trans (HO.out.below.mono HO5.out.2.size))
    by_cases hlt : k < k9
    . obtain ⟨t0, ht0⟩ := HDr.out.get hlt
      obtain ⟨x0, x1⟩ := HDi.out k t0 ht0
      obtain ⟨t, ht⟩ : ∃ t : Nat, t0 = (t : Int) := ⟨t0.toNat, by omega⟩
      subst ht
      have htn : t < n := by omega
      obtain ⟨u, hu⟩ := HU1.out.get htn
      obtain ⟨g1, o1, rfl, hg1, _, _, a1⟩ := row_int HDr.out ht0
      obtain ⟨g2, o2, rfl, hg2, _, _, _, b1, _⟩ := row_Unt HU1.out hu
      have d1 : wr.cell? ⟨g1, o1 + k, none⟩ = some (.int .i64 (t : Int)) := (HO.out.below.cell (p := ⟨g1, _, none⟩) hg1).trans a1
      have d2 : ∀ u2, Below w1.heap.size w1 u2 -> u2.cell? ⟨g2, o2 + t * 3 + 1, none⟩ = some (.int .i64 u.net) := fun u2 hu2 => (hu2.cell (p := ⟨g2, _, none⟩) hg2).trans b1
      obtain ⟨r, hr⟩ : ∃ r, k % R = r := ⟨_, rfl⟩
      have hR0 : ¬ R = 0 := by omega
      have tk : (k : Int).tmod (R : Int) = (r : Int) := rem_any k R r hr
      have hnet : netAt us (t : Int) = u.net := by unfold netAt; rw [Int.toNat_natCast, hu]
      have k1 : (k : Int) < (k9 : Int) := by omega
      have t0 : (0 : Int) <= (t : Int) := by omega
      have t1 : (t : Int) < (n : Int) := by omega
      have HLt := Lib.hid ht0
      have HN := Lib.hid hnet
      have HR2 := Lib.hid hr
      clear hu a1 b1 hg1 hg2 x0 x1 ht0 hnet hr
      by_cases hge : p.buy <= (r : Int)
      . obtain ⟨v, hv⟩ : ∃ v, halfN u.net p.rate = v := ⟨_, rfl⟩
        have HRv := Lib.hid (HRt.out u.net)
        simp only [hv] at HRv
        have hvr := HHf.out u.net
        rw [hv] at hvr
        have HX9 : Hid ((offsUp p us ds k)[k]? = some 0) := Lib.hid (by
          have hl : (offsFrom p us 0 (ds.take k)).length = k := by rw [offsFrom_length, List.length_take, HLd.out]; omega
          unfold offsUp
          rw [List.getElem?_append_right (by omega), hl, Nat.sub_self, List.getElem?_replicate, if_pos (by rw [HLd.out]; omega)])
        have HV : Hid (offsUp p us ds (k + 1) = (offsUp p us ds k).set k v /\ -9223372036854775808 <= v /\ v <= 9223372036854775807) := Lib.hid ⟨by
          rw [offsUp_next HLt.out]
          congr 1
          unfold offAt
          rw [HRR.out, HR2.out, if_pos hge, HN.out, hv], by omega, by omega⟩
        clear hv hvr
        go_wp2_with fail
        refine wp_region_held_drew (S := fun u => Below w1.heap.size w1 u) (by kernel_rfl) (HB.out.drew) (fun hS0 => ?_)
        refine pkT 0 56 hS0 ?_
        try simp only [Act.put, pkA, pkB, pkC]
        refine pkT 1 57 hS0 ?_
        try simp only [Act.put, pkA, pkB, pkC]
        refine pkT 2 58 hS0 ?_
        try simp only [Act.put, pkA, pkB, pkC]
        refine pkT 3 59 hS0 ?_
        try simp only [Act.put, pkA, pkB, pkC]
        refine pkT 4 60 hS0 ?_
        try simp only [Act.put, pkA, pkB, pkC]
        refine pkT 5 61 hS0 ?_
        try simp only [Act.put, pkA, pkB, pkC]
        refine wpAnyH_done (by kernel_rfl) ?_ _
        go_wp2_with fail
        refine wp_region_held_drew (S := fun u => Below w1.heap.size w1 u) (by kernel_rfl) (HB.out.drew.drew) (fun hS0 => ?_)
        refine pkT 0 62 hS0 ?_
        try simp only [Act.put, pkA, pkB, pkC]
        refine pkT 1 63 hS0 ?_
        try simp only [Act.put, pkA, pkB, pkC]
        refine pkT 2 64 hS0 ?_
        try simp only [Act.put, pkA, pkB, pkC]
        refine pkT 3 65 hS0 ?_
        try simp only [Act.put, pkA, pkB, pkC]
        refine pkT 4 66 hS0 ?_
        try simp only [Act.put, pkA, pkB, pkC]
        refine pkT 5 67 hS0 ?_
        try simp only [Act.put, pkA, pkB, pkC]
        refine pkT 6 68 hS0 ?_
        try simp only [Act.put, pkA, pkB, pkC]
        refine pkT 7 69 hS0 ?_
        try simp only [Act.put, pkA, pkB, pkC]
        refine pkT 8 70 hS0 ?_
        try simp only [Act.put, pkA, pkB, pkC]
        refine wpAnyH_ready (rs := [9]) (by kernel_rfl) (by simp) ?_
        refine AllReadyH.cons (o := ⟨some 71, _, _, _, _, _⟩) rfl (fun K hK => ?_) AllReadyH.nil
        go_simp
        refine (HRv.out _).mono ?_
        rintro e wa ⟨rfl, hba⟩
        have hya : Below w1.heap.size w1 wa := (Below.trans hS0 (hba.mono (Below.size hS0)))
        have HOa := (HO.out.drew.drew).later hba
        obtain ⟨⟨ua, da⟩, dfa⟩ := HOa.get hlt
        have HXa := Lib.hid (HOa.put HX9.out HV.out.2)
        have hXb := HO5.out.2.trans (HXa.out.below.mono HO5.out.2.size)
        clear HOa hba
        go_wp2_with fail
        refine hK.out _ _ (hya) (fun hS1 => ?_)
        clear hK K
        try simp only [Act.put, pkA, pkB, pkC]
        refine pkT 10 72 hS1 ?_
        try simp only [Act.put, pkA, pkB, pkC]
        refine wpAnyH_ready (rs := [11]) (by kernel_rfl) (by simp) ?_
        refine AllReadyH.cons (o := ⟨none, _, _, _, _, _⟩) rfl (fun K hK => ?_) AllReadyH.nil
        go_simp
        refine hK.out _ _ (hXb) (fun hS2 => ?_)
        clear hK K
        try simp only [Act.put, pkA, pkB, pkC]
        refine wpAnyH_done (by kernel_rfl) ?_ _
        go_wp2_with fail
        go_roundw
        case rel => exact ⟨k + 1, by go_num, by omega, Lib.hid (by rw [HV.out.1]; exact HXa.out)⟩
        case measure => simp [intOf]; omega
      . have HSa : Hid (Ns w5 wr w5.heap.size k9 (offsUp p us ds (k + 1))) := Lib.hid (by
          rw [offsUp_same HLt.out (by unfold offAt; rw [HRR.out, HR2.out, if_neg hge])]
          exact HO.out)
        go_wp2_with fail
        refine wp_region_held_drew (S := fun u => Below w1.heap.size w1 u) (by kernel_rfl) (HB.out.drew) (fun hS0 => ?_)
        refine pkT 0 56 hS0 ?_
        try simp only [Act.put, pkA, pkB, pkC]
        refine pkT 1 57 hS0 ?_
        try simp only [Act.put, pkA, pkB, pkC]
        refine pkT 2 58 hS0 ?_
        try simp only [Act.put, pkA, pkB, pkC]
        refine pkT 3 59 hS0 ?_
        try simp only [Act.put, pkA, pkB, pkC]
        refine pkT 4 60 hS0 ?_
        try simp only [Act.put, pkA, pkB, pkC]
        refine pkT 5 61 hS0 ?_
        try simp only [Act.put, pkA, pkB, pkC]
        refine wpAnyH_done (by kernel_rfl) ?_ _
        go_wp2_with fail
        go_roundw
        case rel => exact ⟨k + 1, by go_num, by omega, Lib.hid HSa.out.drew⟩
        case measure => simp [intOf]; omega
    . have k1 : ¬ (k : Int) < (k9 : Int) := by omega
      obtain rfl : k = k9 := by omega
      have hx := HK.out.2 wr HB.out
      have x0 := hx.cell 0; have x1 := hx.cell 1; have x2 := hx.cell 2; have x3 := hx.cell 3; have x4 := hx.cell 4; have x5 := hx.cell 5; have x6 := hx.cell 6; have x7 := hx.cell 7; have x8 := hx.cell 8; have x9 := hx.cell 9; have x10 := hx.cell 10; have x11 := hx.cell 11; have x12 := hx.cell 12; have x13 := hx.cell 13; have x14 := hx.cell 14
      have hrow : Row kInt wr (· < wr.heap.size) (some ⟨w5.heap.size, 0, none⟩) k (offsFrom p us 0 ds) := by
        have := HO.out.own.read
        rw [<- HLd.out, offsUp_full, HLd.out] at this
        exact this
      have HB2 := Lib.hid (HBe.out wr A4 c4 w5.heap.size HB.out (row_on HDr.out HO.out.below) hrow)
      clear hx hrow
      go_wp2_with fail
      refine HB2.out.mono ?_
      rintro e w9 ⟨A9, c9, rfl, ho9, hb9⟩
      have HO9 := Lib.hid (And.intro ho9 hb9)
      clear ho9 hb9
      go_wp2
      refine bodyPost_ret (results_tmp2 rfl _ _ _) rfl ?_
      rw [HAp.out]
      have hB := HK.out.1.trans (HB.out.mono HK.out.1.size)
      exact told2_of (own_down HO9.out.1 hB.size) (hB.trans (HO9.out.2.mono hB.size)) _
theorem lbuyget_any (p : Prm) (l : Prm.Lay) (A : Option Addr) (n c : Nat) (us : List Unt) (B : Option Addr) (m d : Nat) (ms : List Int) (w : World) (hp : Ap.Prm.Holds w (· < w.heap.size) p l) (hS : Pr.PrmSmall p l) (h : Row kUnt w (· < w.heap.size) A n us) (hf : Kd.Fit A n c) (hg : Row kInt w (· < w.heap.size) B m ms) (hn : n <= 1000000000000) (hm : m <= 1000000000000) :
    Calls Tryz.prog 11 #[.agg #[.string p.id, .int .i64 p.kind, .int .i64 p.priority, .string p.group, .string p.code, .bool p.closes, .slice l.scope.skus.A l.scope.skus.n l.scope.skus.c, .slice l.scope.cats.A l.scope.cats.n l.scope.cats.c, .int .i64 p.least, .int .i64 p.rate, .int .i64 p.amount, .int .i64 p.buy, .int .i64 p.get, .slice l.parts.A l.parts.n l.parts.c, .slice l.tiers.A l.tiers.n l.tiers.c], .slice A n c, .slice B m d] w fun e w' => Ko.Told2 kUnt 35 w e w' (buygetU p us ms).1 (buygetU p us ms).2 := by
  have hPr := fun W (hb : Below w.heap.size w W) => Pm.promo_any p l W (Pr.holds_later hp hb) hS
  cases hb : Pr.promoB p with
  | false => exact lbuyget_bad p l A n c us B m d ms w hPr h hf hg hn hm hb
  | true =>
    by_cases hk : p.kind = 3
    . cases hmb : mayB us ms with
      | false => exact lbuyget_not p l A n c us B m d ms w hPr h hf hg hn hm hb hk hmb
      | true => exact lbuyget_yes p l A n c us B m d ms w hPr h hf hg hn hm hb hk hmb
    . exact lbuyget_kind p l A n c us B m d ms w hPr h hf hg hn hm hb hk
end Go.Proofs.YtljmddjlnlmenaaGreat.Dl

end

section
namespace Go.Proofs.YtljmddjlnlmenaaGreat.Dl
open Go.ChangeShapes Go.WideShapes Go.ChangeAt Go.RowKit
open Ap (Unt Tir Prm Prt kUnt kTir kPrt row_Unt row_Tir row_Prt)
open Kd (Kind Row RowT kInt kFlag kList Lst row_int row_list)
open Ko (Out Told Told2 At row_on)
open Ct (nil_lst small_of two_ints one_int)
set_option maxHeartbeats 2000000 in
theorem awake_any (w : World) : Calls Tryz.prog 8 #[] w fun e w' => e = .returned (.bool true) /\ Below w.heap.size w w' := by
  obtain ⟨W1, hW1⟩ : ∃ W1, w.alloc (.cells #[.int .i64 0, .int .i64 8, .bool true, .int .i64 1, .int .i64 6, .bool true] 35) = W1 := ⟨_, rfl⟩
  have hb1 : Below w.heap.size w W1 := by rw [<- hW1]; exact (Below.refl _ _).alloc (Nat.le_refl _) _
  have hs1 : W1.heap.size = w.heap.size + 1 := by rw [<- hW1]; simp
  have hu1 : Qu.Blk W1 w.heap.size 35 #[.int .i64 0, .int .i64 8, .bool true, .int .i64 1, .int .i64 6, .bool true] := by rw [<- hW1]; exact Qu.Blk.new w _ _
  obtain ⟨W2, hW2⟩ : ∃ W2, W1.alloc (.cells #[.slice none 0 0, .slice none 0 0, .int .i64 1, .slice none 0 0, .slice none 0 0, .int .i64 1] 56) = W2 := ⟨_, rfl⟩
  have hb2 : Below W1.heap.size W1 W2 := by rw [<- hW2]; exact (Below.refl _ _).alloc (Nat.le_refl _) _
  have hs2 : W2.heap.size = w.heap.size + 2 := by rw [<- hW2]; simp [hs1]
  have hp2 : Qu.Blk W2 W1.heap.size 56 #[.slice none 0 0, .slice none 0 0, .int .i64 1, .slice none 0 0, .slice none 0 0, .int .i64 1] := by rw [<- hW2]; exact Qu.Blk.new W1 _ _
  obtain ⟨W3, hW3⟩ : ∃ W3, W2.alloc (.cells #[.int .i64 0] 3) = W3 := ⟨_, rfl⟩
  have hb3 : Below W2.heap.size W2 W3 := by rw [<- hW3]; exact (Below.refl _ _).alloc (Nat.le_refl _) _
  have hs3 : W3.heap.size = w.heap.size + 3 := by rw [<- hW3]; simp [hs2]
  have hm3 : Qu.Blk W3 W2.heap.size 3 #[.int .i64 0] := by rw [<- hW3]; exact Qu.Blk.new W2 _ _
  obtain ⟨W4, hW4⟩ : ∃ W4, W3.alloc (.cells #[.int .i64 1] 3) = W4 := ⟨_, rfl⟩
  have hb4 : Below W3.heap.size W3 W4 := by rw [<- hW4]; exact (Below.refl _ _).alloc (Nat.le_refl _) _
  have hs4 : W4.heap.size = w.heap.size + 4 := by rw [<- hW4]; simp [hs3]
  have hm4 : Qu.Blk W4 W3.heap.size 3 #[.int .i64 1] := by rw [<- hW4]; exact Qu.Blk.new W3 _ _
  obtain ⟨W5, hW5⟩ : ∃ W5, W4.alloc (.cells #[.slice (some ⟨w.heap.size + 2, 0, none⟩) 1 1, .slice (some ⟨w.heap.size + 3, 0, none⟩) 1 1] 36) = W5 := ⟨_, rfl⟩
  have hb5 : Below W4.heap.size W4 W5 := by rw [<- hW5]; exact (Below.refl _ _).alloc (Nat.le_refl _) _
  have hm5 : Qu.Blk W5 W4.heap.size 36 #[.slice (some ⟨w.heap.size + 2, 0, none⟩) 1 1, .slice (some ⟨w.heap.size + 3, 0, none⟩) 1 1] := by rw [<- hW5]; exact Qu.Blk.new W4 _ _
  have hu5 := (((hu1.below hb2).below hb3).below hb4).below hb5
  have hp5 := ((hp2.below hb3).below hb4).below hb5
  have h35 := (hm3.below hb4).below hb5
  have h45 := hm4.below hb5
  have hB5 : Below w.heap.size w W5 := (((hb1.trans (hb2.mono (by omega))).trans (hb3.mono (by omega))).trans (hb4.mono (by omega))).trans (hb5.mono (by omega))
  rw [hs1] at hp5
  rw [hs2] at h35
  rw [hs3] at h45
  rw [hs4] at hm5
  have hf2 : Kd.Fit (some ⟨w.heap.size, 0, none⟩) 2 2 := ⟨fun h => (by cases h), by decide, by decide⟩
  have hf1 : ∀ b : Nat, Kd.Fit (some ⟨b, 0, none⟩) 1 1 := fun b => ⟨fun h => (by cases h), by decide, by decide⟩
  have hU5 : Row kUnt W5 (· < W5.heap.size) (some ⟨w.heap.size, 0, none⟩) 2 bwU := two_u (u := ⟨0, 8, true⟩) (v := ⟨1, 6, true⟩) ⟨by decide, by decide⟩ ⟨by decide, by decide⟩ hu5
  have hH := bw_holds (cl := false) (amount := 10) (by decide) hp5
  have HA := lbundle_any (bwP false 10) (noLay ⟨some ⟨w.heap.size + 1, 0, none⟩, 2, 2⟩) (some ⟨w.heap.size, 0, none⟩) 2 2 bwU (some ⟨w.heap.size + 4, 0, none⟩) 2 2 [[0], [1]] W5 hH (small_of hH (by decide) (by decide) (by decide) (by decide)) hU5 hf2 (two_ll ⟨one_int (by decide) h35, hf1 _⟩ ⟨one_int (by decide) h45, hf1 _⟩ hm5) (by decide) (by decide) (fun x hx => by
    rcases List.mem_cons.1 hx with rfl | hx
    . decide
    . rw [List.mem_singleton.1 hx]; decide)
  rw [bw_bundle] at HA
  have HA2 : Calls Tryz.prog 13 #[.agg #[.string ⟨#[97]⟩, .int .i64 4, .int .i64 0, .string ⟨#[]⟩, .string ⟨#[]⟩, .bool false, .slice none 0 0, .slice none 0 0, .int .i64 0, .int .i64 0, .int .i64 10, .int .i64 0, .int .i64 0, .slice (some ⟨w.heap.size + 1, 0, none⟩) 2 2, .slice none 0 0], .slice (some ⟨w.heap.size, 0, none⟩) 2 2, .slice (some ⟨w.heap.size + 4, 0, none⟩) 2 2] W5 fun e w' => ∃ (A : Option Addr) (c : Nat), e = .returned (.tuple #[.slice A 2 c, .int .i64 4]) /\ Kd.Own kUnt w' W5.heap.size 35 (fun _ => False) (.slice A 2 c) 2 [⟨0, 6, true⟩, ⟨1, 4, true⟩] /\ Below W5.heap.size W5 w' := HA
  have HAp := Lib.hid HA2
  have HU := Lib.hid (And.intro hU5 (And.intro hB5 hf2))
  have hw1 := Lib.hid hW1
  have hw2 := Lib.hid hW2
  have hw3 := Lib.hid hW3
  have hw4 := Lib.hid hW4
  have hw5 := Lib.hid hW5
  clear hb1 hu1 hb2 hp2 hb3 hm3 hb4 hm4 hb5 hm5 hu5 hp5 h35 h45 hB5 hf2 hf1 hU5 hH HA HA2 hW1 hW2 hW3 hW4 hW5 hs1 hs2 hs3 hs4
  go_enter Tryz.func8, Tryz.ntmps8
  go_wp2_with fail
  rw [hw1.out, hw2.out, hw3.out, hw4.out, hw5.out]
  clear hw1 hw2 hw3 hw4 hw5
  refine HAp.out.mono ?_
  rintro e w6 ⟨A4, c4, rfl, ho4, hb6⟩
  obtain ⟨g4, rfl, _, hg4⟩ := ho4.first (by decide)
  obtain ⟨g, o, e0, _, _, _, _, a1, _⟩ := row_Unt ho4.read (k := 0) (x := ⟨0, 6, true⟩) rfl
  injection e0 with e0
  injection e0 with e5 e6
  subst e5
  subst e6
  obtain ⟨g, o, e0, _, _, _, _, a2, _⟩ := row_Unt ho4.read (k := 1) (x := ⟨1, 4, true⟩) rfl
  injection e0 with e0
  injection e0 with e5 e6
  subst e5
  subst e6
  have v1 : w6.cell? ⟨g4, 1, none⟩ = some (.int .i64 6) := a1
  have v2 : w6.cell? ⟨g4, 4, none⟩ = some (.int .i64 4) := a2
  obtain ⟨W7, hW7⟩ : ∃ W7, w6.alloc (.cells #[.int .i64 0, .int .i64 1] 3) = W7 := ⟨_, rfl⟩
  have hb7 : Below w6.heap.size w6 W7 := by rw [<- hW7]; exact (Below.refl _ _).alloc (Nat.le_refl _) _
  have hm7 : Qu.Blk W7 w6.heap.size 3 #[.int .i64 0, .int .i64 1] := by rw [<- hW7]; exact Qu.Blk.new w6 _ _
  have h57 : Below W5.heap.size W5 W7 := hb6.trans (hb7.mono hb6.size)
  have hG := gw_holds (W := W7) (cl := false) (rate := 10000) (buy := 1) (get := 1) (by decide) (by decide) (by decide)
  have HB := lbuyget_any (gwP false 10000 1 1) (noLay ⟨none, 0, 0⟩) (some ⟨w.heap.size, 0, none⟩) 2 2 bwU (some ⟨w6.heap.size, 0, none⟩) 2 2 [0, 1] W7 hG (small_of hG (by decide) (by decide) (by decide) (by decide)) (row_on HU.out.1 h57) HU.out.2.2 (two_ints hm7) (by decide) (by decide)
  rw [gw_buyget] at HB
  have HB2 : Calls Tryz.prog 11 #[.agg #[.string ⟨#[97]⟩, .int .i64 3, .int .i64 0, .string ⟨#[]⟩, .string ⟨#[]⟩, .bool false, .slice none 0 0, .slice none 0 0, .int .i64 0, .int .i64 10000, .int .i64 0, .int .i64 1, .int .i64 1, .slice none 0 0, .slice none 0 0], .slice (some ⟨w.heap.size, 0, none⟩) 2 2, .slice (some ⟨w6.heap.size, 0, none⟩) 2 2] W7 fun e w' => ∃ (A : Option Addr) (c : Nat), e = .returned (.tuple #[.slice A 2 c, .int .i64 6]) /\ Kd.Own kUnt w' W7.heap.size 35 (fun _ => False) (.slice A 2 c) 2 [⟨0, 8, true⟩, ⟨1, 0, true⟩] /\ Below W7.heap.size W7 w' := HB
  have HBp := Lib.hid HB2
  have HV := Lib.hid (And.intro v1 (And.intro v2 (And.intro hg4 hb7)))
  have HB7 := Lib.hid (HU.out.2.1.trans (h57.mono HU.out.2.1.size))
  have hw7 := Lib.hid hW7
  clear hG HB HB2 hb7 hm7 h57 hW7 v1 v2 a1 a2 hg4 ho4 hb6 HAp
  go_wp2_with fail
  rw [hw7.out]
  clear hw7
  refine HBp.out.mono ?_
  rintro e w8 ⟨A8, c8, rfl, ho8, hb8⟩
  obtain ⟨g8, rfl, _, hg8⟩ := ho8.first (by decide)
  obtain ⟨g, o, e0, _, _, _, _, a3, _⟩ := row_Unt ho8.read (k := 1) (x := ⟨1, 0, true⟩) rfl
  injection e0 with e0
  injection e0 with e5 e6
  subst e5
  subst e6
  have h68 : Below w6.heap.size w6 w8 := HV.out.2.2.2.trans (hb8.mono HV.out.2.2.2.size)
  have v1 : w8.cell? ⟨g4, 1, none⟩ = some (.int .i64 6) := (h68.cell (p := ⟨g4, _, none⟩) HV.out.2.2.1).trans HV.out.1
  have v2 : w8.cell? ⟨g4, 4, none⟩ = some (.int .i64 4) := (h68.cell (p := ⟨g4, _, none⟩) HV.out.2.2.1).trans HV.out.2.1
  have v3 : w8.cell? ⟨g8, 4, none⟩ = some (.int .i64 0) := a3
  have HB8 := Lib.hid (HB7.out.trans (hb8.mono HB7.out.size))
  clear hg8 ho8 hb8 a3 h68
  go_wp2
  go_ret
  exact ⟨rfl, HB8.out⟩
end Go.Proofs.YtljmddjlnlmenaaGreat.Dl

end

section
namespace Go.Proofs.YtljmddjlnlmenaaGreat.Dl
open Go.ChangeShapes Go.WideShapes Go.ChangeAt Go.RowKit
open Ap (Unt Tir Prm kUnt kTir row_Unt row_Tir)
open Kd (Kind Row RowT kInt kFlag row_int)
open Ko (Out Told Told2 At row_on)
open Ct (nth nth_some netAt netsL sumL sumL_append sumL_next halfN UnitsMay PlacesMay May mayB mayB_iff Far take_next lessU SumOk PlacesIn i64_t own_down told2_of)
theorem told_down {α : Type} {K : Kind α} {E : Nat} {w w3 w' : World} {e : Ending} {xs : List α} (hb : Below w.heap.size w w3) (h : Ko.Told K E w3 e w' xs) : Ko.Told K E w e w' xs := by
  obtain ⟨A, c, he, ho, hb2⟩ := h
  exact ⟨A, c, he, own_down ho hb.size, hb.trans (hb2.mono hb.size)⟩
set_option maxHeartbeats 2000000 in
theorem rdear_any (A : Option Addr) (n c : Nat) (us : List Unt) (B : Option Addr) (m d : Nat) (ms : List Int) (w : World) (h : Row kUnt w (· < w.heap.size) A n us) (g : Row kInt w (· < w.heap.size) B m ms) (hm : m <= 100000) (hin : PlacesIn n ms) (hp : PlacesMay us ms) :
    Calls Tryz.prog 33 #[.slice A n c, .slice B m d] w fun e w' => Ko.Told kInt 3 w e w' (dearL us ms) := by
  have HN1 := Ct.nets_any A n c us B m d ms w h g hm hin
  unfold Ko.Told at HN1
  have hnl : (netsL us ms).length = m := by unfold netsL; rw [List.length_map]; exact g.len
  have hdl := dearL_length us ms
  rw [g.len] at hdl
  have hdo := dearL_ord hp
  rw [g.len] at hdo
  obtain ⟨xs, hxs⟩ : ∃ xs, netsL us ms = xs := ⟨_, rfl⟩
  rw [hxs] at hnl hdo
  simp only [hxs, hnl] at HN1
  have HN := Lib.hid HN1
  have HM := Lib.hid g
  have HL := Lib.hid g.len
  obtain ⟨os, hos⟩ : ∃ os, (Qu.ord (nth xs) m).map (·.2) = os := ⟨_, rfl⟩
  have hol : os.length = m := by rw [<- hos, List.length_map, Qu.ord_length]
  have hat : ∀ k, k < m -> ∃ j : Nat, j < m /\ Hl.at_ os k = (j : Int) /\ ∀ x, ms[j]? = some x -> (dearL us ms)[k]? = some x := fun k hk => by
    have e1 : (Qu.ord (nth xs) m)[k]? = some ((Qu.ord (nth xs) m)[k]'(by rw [Qu.ord_length]; exact hk)) := List.getElem?_eq_getElem _
    obtain ⟨j, hj, e2⟩ := Qu.ord_mem (nth xs) m _ (List.mem_of_getElem? e1)
    rw [e2] at e1
    refine ⟨j, hj, ?_, fun x hx => ?_⟩
    . unfold Hl.at_
      rw [<- hos, List.getD_eq_getElem?_getD, List.getElem?_map, e1]; rfl
    . rw [hdo, List.getElem?_map, e1]
      show some (nth ms ((j : Int)).toNat) = some x
      rw [Int.toNat_natCast, nth_some hx]
  have HAt := Lib.hid hat
  have HO1 := fun (W : World) (A2 : Option Addr) (c2 : Nat) (hi : Hl.Ints W W.heap.size A2 m (nth xs)) => Qu.ref_told A2 m c2 (nth xs) W hi (by omega)
  unfold Qu.Told at HO1
  simp only [hos] at HO1
  have HO := Lib.hid HO1
  have HDl := Lib.hid hdl
  have HNl := Lib.hid hnl
  clear h g hin hp HN1 HO1 hxs hnl hdl hdo hos hol hat
  go_enter Tryz.func33, Tryz.ntmps33
  go_wp2_with fail
  refine HN.out.mono ?_
  rintro e w2 ⟨A2, c2, rfl, ho2, hb2⟩
  have hi2 := Ct.ints_row ho2.read
  have HB2 := Lib.hid hb2
  clear ho2 hb2
  go_wp2_with fail
  refine (HO.out w2 A2 c2 hi2).mono ?_
  rintro e w3 ⟨A3, c3, rfl, hi3, hb3⟩
  have HB3 := Lib.hid (HB2.out.trans (hb3.mono HB2.out.size))
  have HI3 := Lib.hid hi3
  clear hi2 hi3 hb3
  go_wp2_with fail
  go_loopw [6, 7] (fun s6 s7 wr => ∃ k : Nat, s7 = .int .i64 k /\ k <= m /\ Hid (Out kInt 3 w3 wr s6 ((dearL us ms).take k))) (fun _ s7 _ => m - (intOf s7).toNat)
  case atStart => exact ⟨0, rfl, by omega, Lib.hid (by rw [List.take_zero]; exact Out.nil _ _ (Below.refl _ _))⟩
  case round =>
    obtain ⟨k, rfl, hk, HX⟩ := hrel
    have kk : (0 : Int) <= (k : Int) := by omega
    by_cases hlt : k < m
    . obtain ⟨j, hj, ej, hd⟩ := HAt.out k hlt
      obtain ⟨x, hx⟩ := HM.out.get hj
      have hdx := hd x hx
      obtain ⟨b3, o3, rfl, hb3, a3⟩ := HI3.out k hlt
      rw [ej] at a3
      obtain ⟨g1, o1, rfl, hg1, _, hok, a1⟩ := row_int HM.out hx
      have c3' : wr.cell? ⟨b3, o3 + k, none⟩ = some (.int .i64 (j : Int)) := (HX.out.below.cell (p := ⟨b3, _, none⟩) hb3).trans a3
      have c1 : wr.cell? ⟨g1, o1 + j, none⟩ = some (.int .i64 x) := ((HB3.out.trans (HX.out.below.mono HB3.out.size)).cell (p := ⟨g1, _, none⟩) hg1).trans a1
      have HE : Hid ((dearL us ms).take (k + 1) = (dearL us ms).take k ++ [x]) := Lib.hid (take_next hdx)
      have hlen : ((dearL us ms).take k).length = k := by rw [List.length_take, HDl.out]; omega
      obtain ⟨ys, hys⟩ : ∃ ys, (dearL us ms).take k = ys := ⟨_, rfl⟩
      rw [hys] at HX hlen HE
      obtain ⟨C, e5, hv⟩ := HX.out.own.value
      rw [hlen] at hv
      subst hv
      have hown0 : Hid (Kd.Own kInt wr w3.heap.size 3 (fun _ => False) (.slice C k e5) k ys) := Lib.hid (by have := HX.out.own; rw [hlen] at this; exact this)
      have HLl := Lib.hid hlen
      have HK := Lib.hid hok
      have hlow := HX.out.below.size
      have k1 : (k : Int) < (m : Int) := by omega
      have j0 : (0 : Int) <= (j : Int) := by omega
      have j1 : (j : Int) < (m : Int) := by omega
      clear ej hd hdx a3 a1 hx hb3 hg1 hok hys hlen
      go_wp2_with ((at_builtin; refine Kd.wpList_push (W := wr) (F := fun _ => False) (B := w3.heap.size) (n := k) (v := .slice C k e5) (xs := ys) (y := x) (cs := [.int .i64 x]) Ap.int_t rfl _ _ rfl rfl rfl rfl hown0.out ⟨rfl, HK.out⟩ (by omega) (by omega) hlow (fun _ h => h.elim) ?_; intro g5 cap w' hown hgrow hfr; have HPu := Lib.hid (HX.out.push HLl.out hown hgrow); clear hown hgrow hfr))
      go_roundw
      case rel => exact ⟨k + 1, by go_num, by omega, Lib.hid (by rw [HE.out]; exact HPu.out)⟩
      case measure => simp [intOf]; omega
    . have k1 : ¬ (k : Int) < (m : Int) := by omega
      obtain rfl : k = m := by omega
      have HE : Hid ((dearL us ms).take k = dearL us ms) := Lib.hid (List.take_of_length_le (by rw [HDl.out]; omega))
      go_wp2
      go_ret
      exact told_down HB3.out (by have := HX.out.told; rw [HE.out] at this; exact this)
end Go.Proofs.YtljmddjlnlmenaaGreat.Dl

end
