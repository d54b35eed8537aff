/- Deals: the document's Bundle (made by gen-rbundle16.py). -/
import Derived.Deep.CutBlock
import Derived.Deep.DeepCutAuto
import Derived.Deep.MidRow
import Derived.Test.YtljmddjlnlmenaaGreatPq34
import Derived.Test.YtljmddjlnlmenaaGreatPq39
set_option maxRecDepth 100000
set_option linter.unusedVariables false

namespace Go.Proofs.YtljmddjlnlmenaaGreat.Dl
open Go.ChangeShapes Go.WideShapes Go.ChangeAt Go.RowKit
open Ap (Unt Tir Prm Prt kUnt kTir kPrt row_Unt row_Tir row_Prt)
open Kd (Kind Row RowT kInt kFlag kList Lst row_int row_list)
open Ko (Out Told Told2 At row_on)
open Ct (nth nth_some netAt netsL sumL UnitsMay PlacesMay May mayB mayB_iff Far take_next lessU SumOk PlacesIn i64_t own_down told2_of)
set_option maxHeartbeats 8000000 in
theorem rbundle_yes (p : Prm) (l : Prm.Lay) (A : Option Addr) (n c : Nat) (us : List Unt) (B : Option Addr) (m d : Nat) (parts : List (List Int)) (w : World) (hPr : ∀ W, Below w.heap.size w W -> Calls Tryz.prog 31 #[.agg #[.string p.id, .int .i64 p.kind, .int .i64 p.priority, .string p.group, .string p.code, .bool p.closes, .slice l.scope.skus.A l.scope.skus.n l.scope.skus.c, .slice l.scope.cats.A l.scope.cats.n l.scope.cats.c, .int .i64 p.least, .int .i64 p.rate, .int .i64 p.amount, .int .i64 p.buy, .int .i64 p.get, .slice l.parts.A l.parts.n l.parts.c, .slice l.tiers.A l.tiers.n l.tiers.c]] W fun e w' => e = .returned (.bool (Pr.promoB p)) /\ Below W.heap.size W w') (hpn : l.parts.n = p.parts.length) (h : Row kUnt w (· < w.heap.size) A n us) (hf : Kd.Fit A n c) (hg : Row (kList kInt) w (· < w.heap.size) B m parts) (hn : n <= 1000000000000) (hm : m <= 1000000000000) (hs : ∀ x ∈ parts, x.length <= 1000000000000) (hb : Pr.promoB p = true) (hk : p.kind = 4) (hlen : parts.length = p.parts.length) (hP : Row kPrt w (· < w.heap.size) l.parts.A l.parts.n p.parts) :
    Calls Tryz.prog 14 #[.agg #[.string p.id, .int .i64 p.kind, .int .i64 p.priority, .string p.group, .string p.code, .bool p.closes, .slice l.scope.skus.A l.scope.skus.n l.scope.skus.c, .slice l.scope.cats.A l.scope.cats.n l.scope.cats.c, .int .i64 p.least, .int .i64 p.rate, .int .i64 p.amount, .int .i64 p.buy, .int .i64 p.get, .slice l.parts.A l.parts.n l.parts.c, .slice l.tiers.A l.tiers.n l.tiers.c], .slice A n c, .slice B m d] w fun e w' => Ko.Told2 kUnt 35 w e w' (bundleU p us parts).1 (bundleU p us parts).2 := by
  obtain ⟨ha0, ha1, hp1, hp3, hct⟩ := bundle_kind hb hk
  have hNo : ∀ x ∈ parts, mayB us x = false -> bundleU p us parts = (us, 0) := fun x hx e => by
    have e2 : parts.all (mayB us) = false := by
      rw [Bool.eq_false_iff]
      intro h2
      have := List.all_eq_true.1 h2 x hx
      rw [e] at this
      cases this
    unfold bundleU bundleB
    rw [e2, Bool.and_false]; rfl
  have hYes : (∀ x ∈ parts, mayB us x = true) -> bundleU p us parts = lessU us (madeB p us parts).1 (madeB p us parts).2 p.closes := fun hh => by
    have e2 : parts.all (mayB us) = true := List.all_eq_true.2 hh
    unfold bundleU bundleB
    rw [hb, hk, hlen, e2]
    simp
  have HNo := Lib.hid hNo
  have HYes := Lib.hid hYes
  have hmq : l.parts.n = m := by rw [<- hg.len, hlen, hpn]
  rw [hb] at hPr
  obtain ⟨w1, hw1⟩ : ∃ w1, w.alloc (.cells #[.string p.id, .int .i64 p.kind, .int .i64 p.priority, .string p.group, .string p.code, .bool p.closes, .slice l.scope.skus.A l.scope.skus.n l.scope.skus.c, .slice l.scope.cats.A l.scope.cats.n l.scope.cats.c, .int .i64 p.least, .int .i64 p.rate, .int .i64 p.amount, .int .i64 p.buy, .int .i64 p.get, .slice l.parts.A l.parts.n l.parts.c, .slice l.tiers.A l.tiers.n l.tiers.c] 28) = w1 := ⟨_, rfl⟩
  have hb1 : Below w.heap.size w w1 := by rw [<- hw1]; exact (Below.refl _ _).alloc (Nat.le_refl _) _
  have hx : Qu.Blk w1 w.heap.size 28 #[.string p.id, .int .i64 p.kind, .int .i64 p.priority, .string p.group, .string p.code, .bool p.closes, .slice l.scope.skus.A l.scope.skus.n l.scope.skus.c, .slice l.scope.cats.A l.scope.cats.n l.scope.cats.c, .int .i64 p.least, .int .i64 p.rate, .int .i64 p.amount, .int .i64 p.buy, .int .i64 p.get, .slice l.parts.A l.parts.n l.parts.c, .slice l.tiers.A l.tiers.n l.tiers.c] := by rw [<- hw1]; exact Qu.Blk.new w _ _
  have HK := Lib.hid (And.intro hb1 (fun u (hu : Below w1.heap.size w1 u) => hx.below hu))
  have HR := Lib.hid (fun W (hb : Below w1.heap.size w1 W) => hPr W (hb1.trans (hb.mono hb1.size)))
  have HU := Lib.hid (row_on h hb1)
  have HFi := Lib.hid hf
  have HMy := Lib.hid (fun (W : World) (hb : Below w1.heap.size w1 W) (Bx : Option Addr) (mx dx : Nat) (ms : List Int) (hr : Row kInt W (· < W.heap.size) Bx mx ms) (hmx : mx <= 1000000000000) => Ct.may_any A n c us Bx mx dx ms _ _ W (row_on (row_on h hb1) hb) hn hr hmx)
  have hul := h.len
  have HDe := Lib.hid (fun (W : World) (hb : Below w1.heap.size w1 W) (Bx : Option Addr) (mx dx : Nat) (ms : List Int) (hr : Row kInt W (· < W.heap.size) Bx mx ms) (hq : mayB us ms = true) => rdear_any A n c us Bx mx dx ms W (row_on (row_on h hb1) hb) hr (by
    have h1 := mayB_iff.1 hq
    have h2 := (apart_of h1.places).few
    have h3 := h1.units.few
    have h4 := hr.len
    omega) (by have := (mayB_iff.1 hq).places.in_; rw [hul] at this; exact this) (mayB_iff.1 hq).places)
  have HG := Lib.hid (row_on hg hb1)
  have HP := Lib.hid (row_on hP hb1)
  have HSs := Lib.hid hs
  have HLm := Lib.hid hg.len
  have HLu := Lib.hid hul
  have HKd := Lib.hid hk
  have HMq := Lib.hid hmq
  have HLp := Lib.hid hlen
  have HAm := Lib.hid (And.intro ha0 ha1)
  have HCt := Lib.hid (And.intro hp1 (And.intro hp3 hct))
  have hm3 : m <= 3 := by rw [<- HLm.out, hlen]; exact hp3
  clear hPr h hf hg hm hb hb1 hx hk hs hpn hP hlen hmq hNo hYes hul ha0 ha1 hp1 hp3 hct
  go_enter Tryz.func14, Tryz.ntmps14
  go_wp2_with (first
    | (go_at_call 31; with_reducible refine (HR.out w5 HO5.out.2).mono ?_; rintro e w3 ⟨rfl, hb53⟩; clear y0 y1 y2 y3 y4 y5 y6 y7 y8 y9 y10 y11 y12 y13 y14; have hb3 := HO5.out.2.trans (hb53.mono HO5.out.2.size); have HO3 := Lib.hid (And.intro hb3 (HO5.out.1.later hb53)); have y1 := (HK.out.2 w3 hb3).cell 1; have y13 := (HK.out.2 w3 hb3).cell 13; rw [HKd.out] at y1; rw [HMq.out] at y13; clear hb3 hb53)
    | (at_builtin; refine Kd.wpList_join (o := ⟨some 20, _, _, _, _, _⟩) (F := fun _ => False) (G := (· < w1.heap.size)) (B := w1.heap.size) (n := 0) (m := n) (c := c) (v := .slice none 0 0) (xs := []) (ys := us) (A := A) Ap.Unt.row_t rfl _ _ rfl rfl rfl (Kd.Own.nil _ _ _ _ _) HU.out HFi.out.1 (fun h => Ap.Unt_rep.2 (Ap.Unt_rep.1 h)) (by omega) (by omega) (Nat.le_refl _) (fun _ h => h.elim) ?_; intro v5 w5 hown hgrow hfr; rw [Nat.zero_add, List.nil_append] at hown; have hb5 : Below w1.heap.size w1 w5 := (Below.refl _ _).grown hgrow (Nat.le_refl _) (fun q hq => by cases hq); obtain ⟨A5, c5, e5⟩ := hown.value; subst e5; have HO5 := Lib.hid (And.intro hown hb5); have hz5 := HK.out.2 w5 hb5; have y0 := hz5.cell 0; have y1 := hz5.cell 1; have y2 := hz5.cell 2; have y3 := hz5.cell 3; have y4 := hz5.cell 4; have y5 := hz5.cell 5; have y6 := hz5.cell 6; have y7 := hz5.cell 7; have y8 := hz5.cell 8; have y9 := hz5.cell 9; have y10 := hz5.cell 10; have y11 := hz5.cell 11; have y12 := hz5.cell 12; have y13 := hz5.cell 13; have y14 := hz5.cell 14; clear hown hgrow hfr hb5 hz5))
  clear y1 y13
  have HG0 : Hid (Gst w3 w3 us parts (.slice none 0 0) 0) := Lib.hid ⟨Kd.Deep.nil _ _ _ _, Below.refl _ _, fun x hx => by simp at hx⟩
  go_loopw [9, 10] (fun s9 s10 wx => ∃ k : Nat, s10 = .int .i64 k /\ k <= m /\ Hid (Gst w3 wx us parts s9 k)) (fun _ s10 _ => m - (intOf s10).toNat)
  case atStart => exact ⟨0, rfl, by omega, HG0⟩
  case round =>
    clear HG0 hw1
    obtain ⟨k, rfl, hk, HO⟩ := hrel
    have kk : (0 : Int) <= (k : Int) := by omega
    have HBw := Lib.hid (HO3.out.1.trans (HO.out.below.mono HO3.out.1.size))
    by_cases hlt : k < m
    . obtain ⟨S, hS⟩ := HG.out.get hlt
      obtain ⟨g4, o4, lm, rfl, hg4, _, hlm, a0⟩ := row_list HG.out hS
      have d4 : ∀ u, Below w1.heap.size w1 u -> u.cell? ⟨g4, o4 + k, none⟩ = some (.slice lm.A lm.n lm.c) := fun u hu => (hu.cell (p := ⟨g4, _, none⟩) hg4).trans a0
      obtain ⟨N, hN⟩ : ∃ N, lm.n = N := ⟨_, rfl⟩
      obtain ⟨A4, hA4⟩ : ∃ A4, lm.A = A4 := ⟨_, rfl⟩
      obtain ⟨C4, hC4⟩ : ∃ C4, lm.c = C4 := ⟨_, rfl⟩
      have hlr := hlm.row
      rw [hN, hA4] at hlr
      simp only [hN, hA4, hC4] at d4
      have HSr := Lib.hid hlr
      have HSm := Lib.hid (List.mem_of_getElem? hS)
      have HTk : Hid (parts.take (k + 1) = parts.take k ++ [S]) := Lib.hid (take_next hS)
      have hN12 : N <= 1000000000000 := by rw [<- hlr.len]; exact HSs.out S HSm.out
      have k1 : (k : Int) < (m : Int) := by omega
      have y4 := d4 wr HBw.out
      clear hS hg4 hlm a0 hN hA4 hC4 hlr
      have hM1 := HMy.out wr HBw.out A4 N C4 S (row_on HSr.out HBw.out) hN12
      cases hmb : mayB us S with
      | false =>
        rw [hmb] at hM1
        have HM1 := Lib.hid hM1
        have HE := Lib.hid (HNo.out S HSm.out hmb)
        clear hM1 hmb
        go_wp2_with fail
        refine HM1.out.mono ?_
        rintro e w6 ⟨rfl, hd6⟩
        have HL := Lib.hid (And.intro (HBw.out.trans ((hd6.below wr.heap.size).mono HBw.out.size)) (HO3.out.2.later (HO.out.below.trans ((hd6.below wr.heap.size).mono HO.out.below.size))))
        clear hd6
        go_wp2
        refine bodyPost_ret (results_tmp2 rfl _ _ _) rfl ?_
        rw [HE.out]
        exact told2_of (own_down HL.out.2 HK.out.1.size) (HK.out.1.trans (HL.out.1.mono HK.out.1.size)) 0
      | true =>
        rw [hmb] at hM1
        have HM1 := Lib.hid hM1
        have HMb := Lib.hid hmb
        clear hM1 hmb
        go_wp2_with fail
        refine HM1.out.mono ?_
        rintro e w6 ⟨rfl, hd6⟩
        have hbd := hd6.below wr.heap.size
        have HB6 := Lib.hid (HBw.out.trans (hbd.mono HBw.out.size))
        have HBd := Lib.hid hbd
        have hD1 := HDe.out w6 HB6.out A4 N C4 S (row_on HSr.out HB6.out) HMb.out
        clear hd6 hbd y4
        have y4 := d4 w6 HB6.out
        obtain ⟨D, hD⟩ : ∃ D, dearL us S = D := ⟨_, rfl⟩
        obtain ⟨q7, hq7⟩ : ∃ q, D.length = q := ⟨_, rfl⟩
        unfold Ko.Told at hD1
        simp only [hD, hq7] at hD1
        have HD1 := Lib.hid hD1
        have HDd := Lib.hid hD
        clear hD1 hD hq7
        go_wp2_with fail
        refine HD1.out.mono ?_
        rintro e w7 ⟨A7, c7, rfl, ho7, hb7⟩
        have HW : Hid (Kd.Deep (kList kInt) w7 w3.heap.size 36 u9 k (starts us (parts.take k)) /\ (kList kInt).rep w7 (Kd.But w7 u9) D [.slice A7 q7 c7] /\ Below w3.heap.size w3 w7 /\ w3.heap.size <= w7.heap.size) := Lib.hid (by
          have hb67 := HBd.out.trans (hb7.mono HBd.out.size)
          have hb37 := HO.out.below.trans (hb67.mono HO.out.below.size)
          exact ⟨HO.out.row.later hb67, Sc.ints_rep ho7 fun g hg => Nat.lt_of_lt_of_le (HO.out.row.low g hg).2 HBd.out.size, hb37, hb37.size⟩)
        clear ho7 hb7
        go_wp2_with (at_builtin; refine Kd.wpList_grow (W := w7) (B := w3.heap.size) (n := k) (v := u9) (xs := starts us (parts.take k)) (x := D) (cs := [.slice A7 q7 c7]) Ap.ints_t rfl _ _ rfl rfl rfl rfl HW.out.1 HW.out.2.1 (by omega) (by omega) HW.out.2.2.2 ?_; intro g1 cap w' hdeep hgrow hfr; have HGn : Hid (Gst w3 w' us parts (.slice (some ⟨g1, 0, none⟩) (k + 1) cap) (k + 1)) := Lib.hid (by
          refine ⟨?_, HW.out.2.2.1.grown hgrow HW.out.2.2.2 (fun i hi => (HW.out.1.low i hi).1), fun x hx => ?_⟩
          . have e : starts us (parts.take (k + 1)) = starts us (parts.take k) ++ [D] := by rw [HTk.out, <- HDd.out]; unfold starts; rw [List.map_append]; rfl
            rw [e]; exact hdeep
          . rw [HTk.out] at hx
            rcases List.mem_append.1 hx with h1 | h1
            . exact HO.out.may x h1
            . rw [List.mem_singleton.1 h1]; exact HMb.out); clear hdeep hgrow hfr)
        go_roundw
        case rel => exact ⟨k + 1, by go_num, by omega, HGn⟩
        case measure => simp [intOf]; omega
    . have hkm : m = k := by omega
      have k1 : ¬ (k : Int) < (m : Int) := by omega
      have htk : parts.take k = parts := List.take_of_length_le (by rw [HLm.out, hkm]; exact Nat.le_refl _)
      have hall : ∀ x ∈ parts, mayB us x = true := by have := HO.out.may; rw [htk] at this; exact this
      have HE := Lib.hid (HYes.out hall)
      have hum : UnitsMay us := by
        have h1 : 0 < parts.length := by have := HLp.out; have := HCt.out.1; omega
        exact (mayB_iff.1 (hall _ (List.getElem_mem h1))).units
      have hpm : ∀ x ∈ parts, PlacesMay us x := fun x hx => (mayB_iff.1 (hall x hx)).places
      have hmk := starts_making hpm
      have hn5 : n <= 100000 := by rw [<- HLu.out]; exact hum.few
      have hin : ∀ S ∈ starts us parts, S.length <= 100000 /\ ∀ x ∈ S, 0 <= x /\ x < (n : Int) := fun S hS => by
        refine ⟨?_, fun x hx => ?_⟩
        . obtain ⟨ms, hms, rfl⟩ := List.mem_map.1 hS
          rw [dearL_length]
          have := (apart_of (hpm ms hms)).few
          have := hum.few
          omega
        . obtain ⟨x0, u, hu, _⟩ := hmk.good S hS x hx
          have := (List.getElem?_eq_some_iff.1 hu).1
          rw [HLu.out] at this
          omega
      have HGood := Lib.hid hmk.good
      have HUM := Lib.hid hum
      have HIn := Lib.hid hin
      obtain ⟨M, hM1, hM2⟩ := made_full flag_t (.bool false) rfl false (fun w F => rfl) n (by omega) (by omega)
      have hdp := HO.out.row
      rw [htk] at hdp
      obtain ⟨A9, c9, e9⟩ := hdp.value
      subst e9
      obtain ⟨w4, hwo⟩ : ∃ w4 : World, w4 = wr := ⟨_, rfl⟩
      subst hwo
      have HG9 : Hid (Row (kList kInt) w4 (· < w4.heap.size) A9 m (starts us parts)) := Lib.hid (by rw [hkm]; exact hdp.read)
      have HMs : Hid (Rst w4 (w4.alloc (.cells M 4)) p us (starts us parts) (madeB p us parts) w4.heap.size n (us.length + 1) (starts us parts) (List.replicate us.length false) (.slice none 0 0) (.slice none 0 0) [] []) := Lib.hid ⟨Out.nil _ _ ((Below.refl _ _).alloc (Nat.le_refl _) _), Out.nil _ _ ((Below.refl _ _).alloc (Nat.le_refl _) _), by rw [HLu.out]; exact hM2 w4 _ (Nat.le_refl _), hmk, rfl, by rw [leftN_new]; omega, Skips.refl _ _⟩
      have HOne := Lib.hid (fun (W : World) (hbW : Below w4.heap.size w4 W) (g : Nat) (hh : List Bool) (hu : Row kFlag W (· < W.heap.size) (some ⟨g, 0, none⟩) n hh) => one_any p l A n c A9 m c9 (starts us parts) (some ⟨g, 0, none⟩) n n hh W (row_on HP.out (HBw.out.trans (hbW.mono HBw.out.size))) (row_on HG9.out hbW) hu (fun e => by cases e) hn5 (by rw [<- HLm.out]; exact HLp.out) HCt.out.2.1 HCt.out.2.2 HIn.out)
      unfold Ko.Told at HOne
      have HU4 := Lib.hid (fun (W : World) (hbW : Below w4.heap.size w4 W) => row_on HU.out (HBw.out.trans (hbW.mono HBw.out.size)))
      have HK4 := Lib.hid (fun (W : World) (hbW : Below w4.heap.size w4 W) => HK.out.2 W (HBw.out.trans (hbW.mono HBw.out.size)))
      have hnu : us.length + 1 = n + 1 := by rw [HLu.out]
      clear hdp hM2 hmk hall hum hpm htk hin
      rw [<- hkm] at *
      clear hkm
      go_wp2_with fail
      go_loopg [12, 13] (us.length + 1) (fun kx s12 s13 wx => ∃ (f : Nat) (all os : List Int) (ls : List (List Int)) (h : List Bool), f <= kx /\ Hid (Rst w4 wx p us (starts us parts) (madeB p us parts) w4.heap.size n f ls h s12 s13 all os))
      case atStart => exact ⟨us.length + 1, [], [], _, _, Nat.le_refl _, HMs⟩
      case round =>
        clear HMs hM1 HO
        obtain ⟨f, all, os, ls, h, hfk, HO⟩ := hrel
        have hlow4 := HO.out.all_.below.size
        have hbx := HO.out.all_.below
        have hHl : h.length = n := by rw [HO.out.mak.len]; exact HLu.out
        have hO1 := HOne.out wr hbx w4.heap.size h HO.out.used.read
        have hbm := one_may (p := p) (h := h) HGood.out
        have hb2 := (one_in (p := p) (h := h) (q := n) fun S hS => (HIn.out S hS).2).2
        obtain ⟨hnone, hsome⟩ := one_next (us := us) (Ss := starts us parts) (h := h) HAm.out.1
        obtain ⟨b, hbb⟩ : ∃ b, oneL p (starts us parts) h = b := ⟨_, rfl⟩
        rw [hbb] at hbm hb2 hnone hsome
        obtain ⟨nb, hnb⟩ : ∃ nb, b.length = nb := ⟨_, rfl⟩
        simp only [hbb, hnb] at hO1
        have hno : Ct.NetsOk (netsL us b) := Ct.nets_ok ⟨HUM.out, hbm⟩
        have hnl : (netsL us b).length = nb := by unfold netsL; rw [List.length_map]; exact hnb
        have hnb5 : nb <= 100000 := by omega
        have hbi : PlacesIn n b := by have := hbm.in_; rw [HLu.out] at this; exact this
        obtain ⟨xs, hxs⟩ : ∃ xs, netsL us b = xs := ⟨_, rfl⟩
        have hNt := fun (W : World) (hbW : Below wr.heap.size wr W) (A2 : Option Addr) (c2 : Nat) (hr : Row kInt W (· < W.heap.size) A2 nb b) => Ct.nets_any A n c us A2 nb c2 b W (HU4.out W (hbx.trans (hbW.mono hbx.size))) hr hnb5 hbi
        unfold Ko.Told at hNt
        rw [hxs] at hno hnl hnone
        simp only [hxs, hnl] at hNt
        obtain ⟨S, hS⟩ : ∃ S, sumL xs = S := ⟨_, rfl⟩
        have hSu := fun (W : World) (A2 : Option Addr) (c2 : Nat) (hr : Row kInt W (· < W.heap.size) A2 nb xs) => Ct.sum_any A2 nb c2 xs _ W hr (by omega) hno.sums.1
        rw [hS] at hnone
        simp only [hS] at hSu
        have hS0 : 0 <= S := by rw [<- hS]; exact hno.sums.2
        have hS1 : S <= 10000000000000 := by rw [<- hS]; exact hno.total
        have HO1 := Lib.hid hO1
        have HNt := Lib.hid hNt
        have HSu := Lib.hid hSu
        have HNs := Lib.hid (And.intro hnone hsome)
        have HBm := Lib.hid (And.intro hno (And.intro hxs (And.intro hS (And.intro hnb hnl))))
        have HHl := Lib.hid hHl
        have hz := HK4.out wr hbx
        have y0 := hz.cell 0; have y1 := hz.cell 1; have y2 := hz.cell 2; have y3 := hz.cell 3; have y4 := hz.cell 4; have y5 := hz.cell 5; have y6 := hz.cell 6; have y7 := hz.cell 7; have y8 := hz.cell 8; have y9 := hz.cell 9; have y10 := hz.cell 10; have y11 := hz.cell 11; have y12 := hz.cell 12; have y13 := hz.cell 13; have y14 := hz.cell 14
        have HBx := Lib.hid hbx
        have HF1 := Lib.hid hfk
        clear hbx hO1 hbm hb2 hnone hsome hbb hnb hno hnl hbi hxs hNt hS hSu hHl hz hfk
        go_wp2_with fail
        refine HO1.out.mono ?_
        rintro e w5 ⟨A14, c14, rfl, ho14, hb14⟩
        have HQ := Lib.hid (And.intro ho14 hb14)
        clear ho14 hb14 y0 y1 y2 y3 y4 y5 y6 y7 y8 y9 y10 y11 y12 y13 y14
        go_wp2_with fail
        refine (HNt.out w5 HQ.out.2 A14 c14 HQ.out.1.read).mono ?_
        rintro e w6 ⟨A6, c6, rfl, ho6, hb6⟩
        have HQ6 := Lib.hid (And.intro ho6.read hb6)
        clear ho6 hb6
        go_wp2_with fail
        refine (HSu.out w6 A6 c6 HQ6.out.1).mono ?_
        rintro e w6b ⟨rfl, hw6⟩
        obtain rfl := hw6
        have hw56 : Below wr.heap.size wr w6 := HQ.out.2.trans (HQ6.out.2.mono HQ.out.2.size)
        have HW := Lib.hid (And.intro hw56 (And.intro (row_on HQ.out.1.read HQ6.out.2) HQ6.out.2))
        have HB46 := Lib.hid (HBx.out.trans (hw56.mono HBx.out.size))
        have z5 := (HK4.out w6 HB46.out).cell 5
        have z10 := (HK4.out w6 HB46.out).cell 10
        clear hw56
        cases hnx : nextB p us ls h with
        | none =>
          have hSa := HNs.out.1 ((next_skip HO.out.skips).1 hnx)
          have hfin := HO.out.fin
          rw [make_stop hnx] at hfin
          have HE2 : Hid (bundleU p us parts = lessU us all os p.closes) := Lib.hid (by rw [HE.out, <- hfin])
          obtain ⟨A12, c12, e12⟩ := HO.out.all_.own.value
          obtain ⟨A13, c13, e13⟩ := HO.out.offs.own.value
          subst e12 e13
          obtain ⟨na, hna⟩ : ∃ na, all.length = na := ⟨_, rfl⟩
          have hfi := HO.out.mak.fine
          have hosl : os.length = na := by rw [hfi.len, hna]
          have hr12 := (HO.out.all_.own.later HW.out.1).read
          have hr13 := (HO.out.offs.own.later HW.out.1).read
          rw [hna] at hr12
          rw [hosl] at hr13
          rw [hna, hosl]
          have hna5 : na <= 100000 := by have := hfi.apart.few; have := HLu.out; omega
          have HLs := Lib.hid (Ct.less_any A n c us A12 na c12 all A13 na c13 os p.closes w6 (HU4.out w6 HB46.out) HFi.out hr12 hr13 hn5 hna5 (Nat.le_refl _) (by have := hfi.apart.in_; rw [HLu.out] at this; exact this) hfi.apart.toFar (hfi.sums HUM.out) (hfi.less HUM.out))
          have HW6 : Hid (Below w1.heap.size w1 w6) := Lib.hid (HBw.out.trans (HB46.out.mono HBw.out.size))
          clear hfin hna hfi hosl hr12 hr13 hnx
          by_cases h0 : nb = 0
          . have i0 : (nb : Int) = 0 := by omega
            have i0b : ((nb : Int) == 0) = true := by rw [beq_iff_eq]; exact i0
            go_wp2_with fail
            refine HLs.out.mono ?_
            rintro e w9 ⟨A10, c10, rfl, ho9, hb9⟩
            have HO9 := Lib.hid (And.intro ho9 hb9)
            clear ho9 hb9
            go_wp2
            refine bodyPost_ret (results_tmp2 rfl _ _ _) rfl ?_
            rw [HE2.out]
            have hB := HK.out.1.trans (HW6.out.mono HK.out.1.size)
            exact told2_of (own_down HO9.out.1 hB.size) (hB.trans (HO9.out.2.mono hB.size)) _
          . have i0 : ¬ (nb : Int) = 0 := by omega
            have i0b : ((nb : Int) == 0) = false := by rw [beq_eq_false_iff_ne]; exact i0
            go_wp2_with fail
            refine HLs.out.mono ?_
            rintro e w9 ⟨A10, c10, rfl, ho9, hb9⟩
            have HO9 := Lib.hid (And.intro ho9 hb9)
            clear ho9 hb9
            go_wp2
            refine bodyPost_ret (results_tmp2 rfl _ _ _) rfl ?_
            rw [HE2.out]
            have hB := HK.out.1.trans (HW6.out.mono HK.out.1.size)
            exact told2_of (own_down HO9.out.1 hB.size) (hB.trans (HO9.out.2.mono hB.size)) _
        | some r =>
          obtain ⟨b', ls', h'⟩ := r
          have hbe : b = b' := by
            obtain ⟨Ss', e1, _⟩ := (next_skip HO.out.skips).2 _ _ _ hnx
            exact HNs.out.2 _ _ _ e1
          subst hbe
          have hsk : Skips h' (starts us parts) ls' := by
            obtain ⟨Ss', e1, e2⟩ := (next_skip HO.out.skips).2 _ _ _ hnx
            exact e2
          obtain ⟨hm1, hno, hof, hsum, hlf⟩ := HO.out.mak.next HUM.out HAm.out.1 hnx
          have hgot := next_got hnx
          have hgt := hgot.2.2.2.2.2
          rw [HBm.out.2.1, HBm.out.2.2.1] at hgt
          obtain ⟨f1, hf1⟩ : ∃ f1, f = f1 + 1 := ⟨f - 1, by have := HO.out.left; omega⟩
          subst hf1
          have hfin := HO.out.fin
          rw [make_on hnx] at hfin
          have hnb0 : 0 < nb := by
            rcases Nat.eq_zero_or_pos nb with h0 | h0
            . have e0 : xs = [] := List.eq_nil_of_length_eq_zero (by rw [HBm.out.2.2.2.2]; exact h0)
              have e1 := HBm.out.2.2.1
              rw [e0] at e1
              have : sumL [] = 0 := rfl
              have := HAm.out.1
              omega
            . exact h0
          have hxl := HBm.out.2.2.2.2
          have hsf : Sh.sumF (nth xs) nb = S := by rw [Ct.sumF_nth xs nb (by omega), List.take_of_length_le (by omega), HBm.out.2.2.1]
          have hfe : ∀ k, k < nb -> 0 <= nth xs k /\ nth xs k <= 100000000000000 := fun k hk => by
            have e := List.getElem?_eq_getElem (show k < xs.length by omega)
            rw [nth_some e]
            have := HBm.out.1.each k _ e
            omega
          have hLg : Sh.parts (S - p.amount) (Sh.sumF (nth xs) nb) (nth xs) nb = offsB p us b := by
            unfold offsB
            rw [HBm.out.2.1, HBm.out.2.2.1, hxl, Sh.larg_parts ⟨by omega, by have := HAm.out.1; omega⟩ hnb5 hfe (by rw [hsf]; have := HAm.out.1; omega) (by rw [hsf]; omega)]
          have hRl := fun (W : World) (A2 : Option Addr) (c2 : Nat) (hr : Row kInt W (· < W.heap.size) A2 nb xs) => Sh.rlN_parts (S - p.amount) A2 nb c2 (nth xs) W (Ct.ints_row hr) (by omega) (by have := HAm.out.1; omega) hnb5 hfe (by rw [hsf]; have := HAm.out.1; omega) (by rw [hsf]; omega)
          obtain ⟨Lg, hLg2⟩ : ∃ Lg, offsB p us b = Lg := ⟨_, rfl⟩
          rw [hLg2] at hLg hm1 hof hfin
          simp only [hLg] at hRl
          have hLl : Lg.length = nb := by rw [hof.1, HBm.out.2.1, hxl]
          have hLr : ∀ (k : Nat) (z : Int), Lg[k]? = some z -> -9223372036854775808 <= z /\ z <= 9223372036854775807 := fun k z hz => by
            have hl := (List.getElem?_eq_some_iff.1 hz).1
            have e := List.getElem?_eq_getElem (show k < (netsL us b).length by rw [HBm.out.2.1]; omega)
            have h1 := hof.2 k z _ hz e
            have h2 := hno.each k _ e
            omega
          have hgb := HQ.out.1.first hnb0
          obtain ⟨gb, eA, hgb1, hgb2⟩ := hgb
          subst eA
          have HRl := Lib.hid hRl
          have HLg := Lib.hid hLl
          have HLr := Lib.hid hLr
          have HNx := Lib.hid (And.intro hm1 (And.intro hfin (And.intro (show leftN h' < f1 by have := HO.out.left; omega) (And.intro hsk hgot.1))))
          have HFk := Lib.hid (show f1 < gk by have := HF1.out; omega)
          have HGb := Lib.hid hgb1
          have a0 : 0 <= p.amount := HAm.out.1
          have a1 : p.amount <= 10000000000000 := HAm.out.2
          have i0 : ¬ (nb : Int) = 0 := by omega
          have i0b : ((nb : Int) == 0) = false := by rw [beq_eq_false_iff_ne]; exact i0
          have i1 : ¬ S <= p.amount := by omega
          have HWz : Hid (IntKind.i64.wrap (S - p.amount) = S - p.amount) := Lib.hid (IntWalk.i64_in _ (by omega))
          have c10 : ∀ u, Below w6.heap.size w6 u -> u.cell? ⟨w.heap.size, 10, none⟩ = some (.int .i64 p.amount) := fun u hu => (HK4.out u (HB46.out.trans (hu.mono HB46.out.size))).cell 10
          have HNy := Lib.hid hnx
          clear hnx hm1 hno hof hsum hlf hgot hfin hsf hfe hLg hRl hLg2 hLl hLr hgb1 hgb2 hsk hxl z5
          go_wp2_with fail
          clear z10
          refine wp_region_held_drew (S := fun u => Below w6.heap.size w6 u) (by kernel_rfl) ((Below.refl _ _).drew) (fun hS0 => ?_)
          refine pkT 0 91 hS0 ?_
          try simp only [Act.put, pkA, pkB, pkC]
          refine pkT 1 92 hS0 ?_
          try simp only [Act.put, pkA, pkB, pkC]
          refine pkT 2 93 hS0 ?_
          try simp only [Act.put, pkA, pkB, pkC]
          refine pkT 3 94 hS0 ?_
          try simp only [Act.put, pkA, pkB, pkC]
          refine pkT 4 95 hS0 ?_
          try simp only [Act.put, pkA, pkB, pkC]
          refine pkT 5 96 hS0 ?_
          try simp only [Act.put, pkA, pkB, pkC]
          refine wpAnyH_ready (rs := [6]) (by kernel_rfl) (by simp) ?_
          refine AllReadyH.cons (o := ⟨some 97, _, _, _, _, _⟩) rfl (fun K hK => ?_) AllReadyH.nil
          go_simp
          refine (HNt.out _ (HW.out.1.trans (Below.mono hS0 HW.out.1.size)) (some ⟨gb, 0, none⟩) c14 (row_on HW.out.2.1 hS0)).mono ?_
          rintro e wa ⟨A7, c7, rfl, ho7, hb7⟩
          have hya : Below w6.heap.size w6 wa := Below.trans hS0 (hb7.mono (Below.size hS0))
          go_wp2_with fail
          refine hK.out _ _ (hya) (fun hS1 => ?_)
          clear hK K
          try simp only [Act.put, pkA, pkB, pkC]
          refine wpAnyH_ready (rs := [7]) (by kernel_rfl) (by simp) ?_
          refine AllReadyH.cons (o := ⟨some 98, _, _, _, _, _⟩) rfl (fun K hK => ?_) AllReadyH.nil
          go_simp
          rw [HWz.out]
          refine (HRl.out _ A7 c7 ho7.read).mono ?_
          rintro e wb hg
          have hg2 := gaveN_form hg
          rw [HLg.out] at hg2
          obtain ⟨gx, c8, rfl, hgx, hi8, hb8⟩ := hg2
          have hyb : Below w6.heap.size w6 wb := hya.trans (hb8.mono hya.size)
          go_wp2_with fail
          refine hK.out _ _ (hyb) (fun hS2 => ?_)
          clear hK K
          try simp only [Act.put, pkA, pkB, pkC]
          refine pkT 8 90 hS2 ?_
          try simp only [Act.put, pkA, pkB, pkC]
          refine pkT 9 99 hS2 ?_
          try simp only [Act.put, pkA, pkB, pkC]
          refine pkT 10 100 hS2 ?_
          try simp only [Act.put, pkA, pkB, pkC]
          refine pkT 11 16 hS2 ?_
          try simp only [Act.put, pkA, pkB, pkC]
          refine pkT 12 17 hS2 ?_
          try simp only [Act.put, pkA, pkB, pkC]
          refine wpAnyH_done (by kernel_rfl) ?_ _
          skip
          have HT0 : Hid (Two w4 wb b Lg gb gx (.slice (some ⟨w4.heap.size, 0, none⟩) n n) n h u12 u13 all os none none) := Lib.hid (two_start HO.out.all_ HO.out.offs HO.out.used HQ.out.1 HGb.out (HQ6.out.2.trans (hyb.mono HQ6.out.2.size)) (HW.out.1.trans (hyb.mono HW.out.1.size)) (by rw [HLg.out]; exact hi8) (Nat.le_trans HW.out.1.size (Nat.le_trans hya.size hgx)) (by rw [HLg.out]; exact hnb0))
          clear hi8 hb8 hyb hya hgx ho7 hb7 c10 hg hS0
          go_wp2_with fail
          go_loopw [12, 13, 18] (fun s12 s13 s18 wx => ∃ k : Nat, s18 = .int .i64 k /\ k <= nb /\ Hid (Two w4 wx b Lg gb gx (.slice (some ⟨w4.heap.size, 0, none⟩) n n) n ((b.take k).foldl take1 h) s12 s13 (all ++ b.take k) (os ++ Lg.take k) none none)) (fun _ _ s18 _ => nb - (intOf s18).toNat)
          case atStart => exact ⟨0, rfl, by omega, Lib.hid (by rw [List.take_zero, List.take_zero, List.append_nil, List.append_nil]; exact HT0.out)⟩
          case round =>
            clear HT0
            obtain ⟨k, rfl, hk, HX⟩ := hrel
            have kk : (0 : Int) <= (k : Int) := by omega
            by_cases hlt : k < nb
            . have hbl : b.length = nb := HBm.out.2.2.2.1
              have hxb := List.getElem?_eq_getElem (show k < b.length by omega)
              have hzl := List.getElem?_eq_getElem (show k < Lg.length by rw [HLg.out]; exact hlt)
              obtain ⟨x0, hx0⟩ : ∃ x0, b[k]'(by omega) = x0 := ⟨_, rfl⟩
              obtain ⟨z, hz⟩ : ∃ z, Lg[k]'(by rw [HLg.out]; exact hlt) = z := ⟨_, rfl⟩
              rw [hx0] at hxb
              rw [hz] at hzl
              obtain ⟨q0, ux, hux, _⟩ := (next_may HO.out.mak (HNy.out)).at_ k x0 hxb
              have hxn := (List.getElem?_eq_some_iff.1 hux).1
              rw [HLu.out] at hxn
              obtain ⟨t, ht⟩ : ∃ t : Nat, x0 = (t : Int) := ⟨x0.toNat, by omega⟩
              subst ht
              have htn : t < n := by omega
              have hrz := HLr.out k z hzl
              obtain ⟨hh, hhh⟩ : ∃ hh, (b.take k).foldl take1 h = hh := ⟨_, rfl⟩
              obtain ⟨L12, hL12⟩ : ∃ L, all ++ b.take k = L := ⟨_, rfl⟩
              obtain ⟨L13, hL13⟩ : ∃ L, os ++ Lg.take k = L := ⟨_, rfl⟩
              have hE1 : all ++ b.take (k + 1) = L12 ++ [(t : Int)] := by rw [take_next hxb, <- List.append_assoc, hL12]
              have hE2 : os ++ Lg.take (k + 1) = L13 ++ [z] := by rw [take_next hzl, <- List.append_assoc, hL13]
              have hE3 : (b.take (k + 1)).foldl take1 h = take1 hh (t : Int) := by rw [takeAll_next hxb, hhh]
              have hX := HX.out
              rw [hhh, hL12, hL13] at hX
              have hla : L12.length = all.length + k := by rw [<- hL12, List.length_append, List.length_take]; omega
              have hlb : L13.length = all.length + k := by rw [<- hL13, List.length_append, List.length_take, HLg.out, HO.out.mak.fine.len]; omega
              obtain ⟨La, hLa⟩ : ∃ La, all.length + k = La := ⟨_, rfl⟩
              have hLa5 : La <= 200000 := by
                have := HO.out.mak.fine.apart.few
                have := HLu.out
                omega
              rw [hLa] at hla hlb
              obtain ⟨C12, e12, hv12⟩ := hX.all.own.value
              obtain ⟨C13, e13, hv13⟩ := hX.offs.own.value
              rw [hla] at hv12
              rw [hlb] at hv13
              subst hv12 hv13
              obtain ⟨b6, f6⟩ := flag_get hX.used htn
              have y6 := hX.cb k _ hxb
              obtain ⟨Ws, hWs⟩ : ∃ Ws, wr.setCell ⟨w4.heap.size, t, none⟩ (.bool true) = Ws := ⟨_, rfl⟩
              have hT := hX.flag htn
              rw [hWs] at hT
              have HTd := Lib.hid (hT.later ((Below.refl Ws.heap.size Ws).drew))
              have HT := HTd
              have HBk := Lib.hid hxb
              have HXk := Lib.hid hzl
              have HE1 := Lib.hid hE1
              have HE2 := Lib.hid hE2
              have HE3 := Lib.hid hE3
              have HLa := Lib.hid (And.intro hla hlb)
              have HRg := Lib.hid (And.intro (show -9223372036854775808 <= (t : Int) /\ (t : Int) <= 9223372036854775807 by omega) hrz)
              have k1 : (k : Int) < (nb : Int) := by omega
              have t0 : (0 : Int) <= (t : Int) := by omega
              have t1 : (t : Int) < (n : Int) := by omega
              have d1 : ∀ u, Keeps2 u gb gx k (t : Int) z -> u.cell? ⟨gb, k, none⟩ = some (.int .i64 (t : Int)) := fun u hu => hu.1
              have d2 : ∀ u, Keeps2 u gb gx k (t : Int) z -> u.cell? ⟨gx, k, none⟩ = some (.int .i64 z) := fun u hu => hu.2
              clear hbl hxb hzl hx0 hz q0 hux hxn hrz hhh hL12 hL13 hE1 hE2 hE3 hX hla hlb hLa hT
              go_wp2_with fail
              clear b6 f6 y6
              refine wp_region_held_drew (S := fun u => Keeps2 u gb gx k (t : Int) z) (by kernel_rfl) (HTd.out.keeps HBk.out HXk.out) (fun hS0 => ?_)
              refine pkT 0 113 hS0 ?_
              try simp only [Act.put, pkA, pkB, pkC]
              refine pkT 1 114 hS0 ?_
              try simp only [Act.put, pkA, pkB, pkC]
              refine pkT 2 115 hS0 ?_
              try simp only [Act.put, pkA, pkB, pkC]
              refine pkT 3 116 hS0 ?_
              try simp only [Act.put, pkA, pkB, pkC]
              refine pkT 4 117 hS0 ?_
              try simp only [Act.put, pkA, pkB, pkC]
              refine pkT 7 120 hS0 ?_
              try simp only [Act.put, pkA, pkB, pkC]
              refine pkT 8 121 hS0 ?_
              try simp only [Act.put, pkA, pkB, pkC]
              refine pkT 9 122 hS0 ?_
              try simp only [Act.put, pkA, pkB, pkC]
              refine pkT 10 123 hS0 ?_
              try simp only [Act.put, pkA, pkB, pkC]
              refine pkT 11 124 hS0 ?_
              try simp only [Act.put, pkA, pkB, pkC]
              refine wpAnyH_ready (rs := [5, 12]) (by kernel_rfl) (by simp) ?_
              refine AllReadyH.cons (o := ⟨some 118, _, _, _, _, _⟩) rfl (fun K hK => ?_) ?_
              ·
                go_simp
                have HT := Lib.hid (HT.out.new1 (t : Int))
                refine hK.out _ _ (HT.out.keeps HBk.out HXk.out) (fun hS1 => ?_)
                clear hK K
                try simp only [Act.put, pkA, pkB, pkC]
                refine wpAnyH_ready (rs := [6, 12]) (by kernel_rfl) (by simp) ?_
                refine AllReadyH.cons (o := ⟨some 119, _, _, _, _, _⟩) rfl (fun K hK => ?_) ?_
                ·
                  refine Kd.step_join (o := ⟨some 119, _, _, _, _, _⟩) (F := fun _ => False) (G := (· < _)) (B := w4.heap.size) (n := La) (m := 1) (c := 1) (v := .slice C12 La e12) (xs := L12) (ys := [(t : Int)]) Ap.int_t rfl (.tmp 113) (.tmp 118) rfl rfl rfl (by have := HT.out.all.own; rw [HLa.out.1] at this; exact this) (row_news_at (HT.out.r1 _ _ rfl).1 (by first | rfl | simp) HRg.out.1) (fun e => by cases e) (fun h => h) (by omega) (by omega) HT.out.all.below.size (fun _ h => h.elim) ?_
                  intro v7 w7 hown hgrow hfr
                  have HT := Lib.hid (HT.out.push1 HLa.out.1 hown hgrow hfr)
                  clear hown hgrow hfr
                  refine hK.out _ _ (HT.out.keeps HBk.out HXk.out) (fun hS2 => ?_)
                  clear hK K
                  try simp only [Act.put, pkA, pkB, pkC]
                  refine wpAnyH_ready (rs := [12]) (by kernel_rfl) (by simp) ?_
                  refine AllReadyH.cons (o := ⟨some 125, _, _, _, _, _⟩) rfl (fun K hK => ?_) AllReadyH.nil
                  go_simp
                  have HT := Lib.hid (HT.out.new2 z)
                  refine hK.out _ _ (HT.out.keeps HBk.out HXk.out) (fun hS3 => ?_)
                  clear hK K
                  try simp only [Act.put, pkA, pkB, pkC]
                  refine wpAnyH_ready (rs := [13]) (by kernel_rfl) (by simp) ?_
                  refine AllReadyH.cons (o := ⟨some 126, _, _, _, _, _⟩) rfl (fun K hK => ?_) AllReadyH.nil
                  refine Kd.step_join (o := ⟨some 126, _, _, _, _, _⟩) (F := fun _ => False) (G := (· < _)) (B := w4.heap.size) (n := La) (m := 1) (c := 1) (v := .slice C13 La e13) (xs := L13) (ys := [z]) i64_t rfl (.tmp 120) (.tmp 125) rfl rfl rfl (by have := HT.out.offs.own; rw [HLa.out.2] at this; exact this) (row_news_at (HT.out.r2 _ _ rfl).1 (by first | rfl | simp) HRg.out.2) (fun e => by cases e) (fun h => h) (by omega) (by omega) HT.out.all.below.size (fun _ h => h.elim) ?_
                  intro v8 w8 hown hgrow hfr
                  have HT := Lib.hid (HT.out.push2 HLa.out.2 hown hgrow hfr)
                  clear hown hgrow hfr
                  refine hK.out _ _ (HT.out.keeps HBk.out HXk.out) (fun hS4 => ?_)
                  clear hK K
                  try simp only [Act.put, pkA, pkB, pkC]
                  refine pkT 14 12 hS4 ?_
                  try simp only [Act.put, pkA, pkB, pkC]
                  refine pkT 15 13 hS4 ?_
                  try simp only [Act.put, pkA, pkB, pkC]
                  refine wpAnyH_done (by kernel_rfl) ?_ _
                  go_wp2_with fail
                  go_roundw
                  case rel => exact ⟨k + 1, by go_num, by omega, Lib.hid (by rw [HE1.out, HE2.out, HE3.out]; exact HT.out)⟩
                  case measure => simp [intOf]; omega
                refine AllReadyH.cons (o := ⟨some 125, _, _, _, _, _⟩) rfl (fun K hK => ?_) AllReadyH.nil
                go_simp
                have HT := Lib.hid (HT.out.new2 z)
                refine hK.out _ _ (HT.out.keeps HBk.out HXk.out) (fun hS2 => ?_)
                clear hK K
                try simp only [Act.put, pkA, pkB, pkC]
                refine wpAnyH_ready (rs := [6]) (by kernel_rfl) (by simp) ?_
                refine AllReadyH.cons (o := ⟨some 119, _, _, _, _, _⟩) rfl (fun K hK => ?_) AllReadyH.nil
                refine Kd.step_join (o := ⟨some 119, _, _, _, _, _⟩) (F := fun _ => False) (G := (· < _)) (B := w4.heap.size) (n := La) (m := 1) (c := 1) (v := .slice C12 La e12) (xs := L12) (ys := [(t : Int)]) Ap.int_t rfl (.tmp 113) (.tmp 118) rfl rfl rfl (by have := HT.out.all.own; rw [HLa.out.1] at this; exact this) (row_news_at (HT.out.r1 _ _ rfl).1 (by first | rfl | simp) HRg.out.1) (fun e => by cases e) (fun h => h) (by omega) (by omega) HT.out.all.below.size (fun _ h => h.elim) ?_
                intro v7 w7 hown hgrow hfr
                have HT := Lib.hid (HT.out.push1 HLa.out.1 hown hgrow hfr)
                clear hown hgrow hfr
                refine hK.out _ _ (HT.out.keeps HBk.out HXk.out) (fun hS3 => ?_)
                clear hK K
                try simp only [Act.put, pkA, pkB, pkC]
                refine wpAnyH_ready (rs := [13]) (by kernel_rfl) (by simp) ?_
                refine AllReadyH.cons (o := ⟨some 126, _, _, _, _, _⟩) rfl (fun K hK => ?_) AllReadyH.nil
                refine Kd.step_join (o := ⟨some 126, _, _, _, _, _⟩) (F := fun _ => False) (G := (· < _)) (B := w4.heap.size) (n := La) (m := 1) (c := 1) (v := .slice C13 La e13) (xs := L13) (ys := [z]) i64_t rfl (.tmp 120) (.tmp 125) rfl rfl rfl (by have := HT.out.offs.own; rw [HLa.out.2] at this; exact this) (row_news_at (HT.out.r2 _ _ rfl).1 (by first | rfl | simp) HRg.out.2) (fun e => by cases e) (fun h => h) (by omega) (by omega) HT.out.all.below.size (fun _ h => h.elim) ?_
                intro v8 w8 hown hgrow hfr
                have HT := Lib.hid (HT.out.push2 HLa.out.2 hown hgrow hfr)
                clear hown hgrow hfr
                refine hK.out _ _ (HT.out.keeps HBk.out HXk.out) (fun hS4 => ?_)
                clear hK K
                try simp only [Act.put, pkA, pkB, pkC]
                refine pkT 14 12 hS4 ?_
                try simp only [Act.put, pkA, pkB, pkC]
                refine pkT 15 13 hS4 ?_
                try simp only [Act.put, pkA, pkB, pkC]
                refine wpAnyH_done (by kernel_rfl) ?_ _
                go_wp2_with fail
                go_roundw
                case rel => exact ⟨k + 1, by go_num, by omega, Lib.hid (by rw [HE1.out, HE2.out, HE3.out]; exact HT.out)⟩
                case measure => simp [intOf]; omega
              refine AllReadyH.cons (o := ⟨some 125, _, _, _, _, _⟩) rfl (fun K hK => ?_) AllReadyH.nil
              go_simp
              have HT := Lib.hid (HT.out.new2 z)
              refine hK.out _ _ (HT.out.keeps HBk.out HXk.out) (fun hS1 => ?_)
              clear hK K
              try simp only [Act.put, pkA, pkB, pkC]
              refine wpAnyH_ready (rs := [5]) (by kernel_rfl) (by simp) ?_
              refine AllReadyH.cons (o := ⟨some 118, _, _, _, _, _⟩) rfl (fun K hK => ?_) AllReadyH.nil
              go_simp
              have HT := Lib.hid (HT.out.new1 (t : Int))
              refine hK.out _ _ (HT.out.keeps HBk.out HXk.out) (fun hS2 => ?_)
              clear hK K
              try simp only [Act.put, pkA, pkB, pkC]
              refine wpAnyH_ready (rs := [6]) (by kernel_rfl) (by simp) ?_
              refine AllReadyH.cons (o := ⟨some 119, _, _, _, _, _⟩) rfl (fun K hK => ?_) AllReadyH.nil
              refine Kd.step_join (o := ⟨some 119, _, _, _, _, _⟩) (F := fun _ => False) (G := (· < _)) (B := w4.heap.size) (n := La) (m := 1) (c := 1) (v := .slice C12 La e12) (xs := L12) (ys := [(t : Int)]) Ap.int_t rfl (.tmp 113) (.tmp 118) rfl rfl rfl (by have := HT.out.all.own; rw [HLa.out.1] at this; exact this) (row_news_at (HT.out.r1 _ _ rfl).1 (by first | rfl | simp) HRg.out.1) (fun e => by cases e) (fun h => h) (by omega) (by omega) HT.out.all.below.size (fun _ h => h.elim) ?_
              intro v7 w7 hown hgrow hfr
              have HT := Lib.hid (HT.out.push1 HLa.out.1 hown hgrow hfr)
              clear hown hgrow hfr
              refine hK.out _ _ (HT.out.keeps HBk.out HXk.out) (fun hS3 => ?_)
              clear hK K
              try simp only [Act.put, pkA, pkB, pkC]
              refine wpAnyH_ready (rs := [13]) (by kernel_rfl) (by simp) ?_
              refine AllReadyH.cons (o := ⟨some 126, _, _, _, _, _⟩) rfl (fun K hK => ?_) AllReadyH.nil
              refine Kd.step_join (o := ⟨some 126, _, _, _, _, _⟩) (F := fun _ => False) (G := (· < _)) (B := w4.heap.size) (n := La) (m := 1) (c := 1) (v := .slice C13 La e13) (xs := L13) (ys := [z]) i64_t rfl (.tmp 120) (.tmp 125) rfl rfl rfl (by have := HT.out.offs.own; rw [HLa.out.2] at this; exact this) (row_news_at (HT.out.r2 _ _ rfl).1 (by first | rfl | simp) HRg.out.2) (fun e => by cases e) (fun h => h) (by omega) (by omega) HT.out.all.below.size (fun _ h => h.elim) ?_
              intro v8 w8 hown hgrow hfr
              have HT := Lib.hid (HT.out.push2 HLa.out.2 hown hgrow hfr)
              clear hown hgrow hfr
              refine hK.out _ _ (HT.out.keeps HBk.out HXk.out) (fun hS4 => ?_)
              clear hK K
              try simp only [Act.put, pkA, pkB, pkC]
              refine pkT 14 12 hS4 ?_
              try simp only [Act.put, pkA, pkB, pkC]
              refine pkT 15 13 hS4 ?_
              try simp only [Act.put, pkA, pkB, pkC]
              refine wpAnyH_done (by kernel_rfl) ?_ _
              go_wp2_with fail
              go_roundw
              case rel => exact ⟨k + 1, by go_num, by omega, Lib.hid (by rw [HE1.out, HE2.out, HE3.out]; exact HT.out)⟩
              case measure => simp [intOf]; omega
            . have hkn : k = nb := by omega
              have k1 : ¬ (k : Int) < (nb : Int) := by omega
              have hX := HX.out
              rw [List.take_of_length_le (show b.length <= k by rw [HBm.out.2.2.2.1, hkn]; exact Nat.le_refl _), List.take_of_length_le (show Lg.length <= k by rw [HLg.out, hkn]; exact Nat.le_refl _), takeAll_got HNx.out.2.2.2.2] at hX
              have HRn : Hid (Rst w4 wr p us (starts us parts) (madeB p us parts) w4.heap.size n f1 ls' h' u12 u13 (all ++ b) (os ++ Lg)) := Lib.hid ⟨hX.all, hX.offs, hX.used, HNx.out.1, HNx.out.2.1, HNx.out.2.2.1, HNx.out.2.2.2.1⟩
              clear hX hkn
              go_wp2_with fail
              go_roundg f1
              case measure => exact HFk.out
              case rel => exact ⟨f1, _, _, _, _, Nat.le_refl _, HRn⟩
theorem rbundle_any (p : Prm) (l : Prm.Lay) (A : Option Addr) (n c : Nat) (us : List Unt) (B : Option Addr) (m d : Nat) (parts : List (List Int)) (w : World) (hp : Ap.Prm.Holds w (· < w.heap.size) p l) (hS : Pr.PrmSmall p l) (h : Row kUnt w (· < w.heap.size) A n us) (hf : Kd.Fit A n c) (hg : Row (kList kInt) w (· < w.heap.size) B m parts) (hn : n <= 1000000000000) (hm : m <= 1000000000000) (hs : ∀ x ∈ parts, x.length <= 1000000000000) :
    Calls Tryz.prog 14 #[.agg #[.string p.id, .int .i64 p.kind, .int .i64 p.priority, .string p.group, .string p.code, .bool p.closes, .slice l.scope.skus.A l.scope.skus.n l.scope.skus.c, .slice l.scope.cats.A l.scope.cats.n l.scope.cats.c, .int .i64 p.least, .int .i64 p.rate, .int .i64 p.amount, .int .i64 p.buy, .int .i64 p.get, .slice l.parts.A l.parts.n l.parts.c, .slice l.tiers.A l.tiers.n l.tiers.c], .slice A n c, .slice B m d] w fun e w' => Ko.Told2 kUnt 35 w e w' (bundleU p us parts).1 (bundleU p us parts).2 := by
  have hPr := fun W (hb : Below w.heap.size w W) => Pr.rpromo_any p l W (Pr.holds_later hp hb) hS
  have hpn : l.parts.n = p.parts.length := hp.parts.row.len.symm
  cases hb : Pr.promoB p with
  | false => exact rbundle_bad p l A n c us B m d parts w hPr hpn h hf hg hn hm hs hb
  | true =>
    by_cases hk : p.kind = 4
    . by_cases hl : parts.length = p.parts.length
      . exact rbundle_yes p l A n c us B m d parts w hPr hpn h hf hg hn hm hs hb hk hl hp.parts.row
      . exact rbundle_len p l A n c us B m d parts w hPr hpn h hf hg hn hm hs hb hk hl
    . exact rbundle_kind p l A n c us B m d parts w hPr hpn h hf hg hn hm hs hb hk
end Go.Proofs.YtljmddjlnlmenaaGreat.Dl
