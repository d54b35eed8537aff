/- Deals: the landed behind (made by gen-behind16.py). · The landed package goods: a contract a call. · The landed promo's small asks: bounds, names, a rate, an amount, rows. · The document's scopes: names, has, Scope, Has, Index. · The document's parts and tiers. -/
import Derived.Deep.Quiet
import Derived.Deep.QuietTactic
import Derived.Deep.RegionHeld3
import Derived.Test.YtljmddjlnlmenaaPk1
import Derived.Test.YtljmddjlnlmenaaPk2
import Derived.Test.YtljmddjlnlmenaaPk5
import Derived.Test.YtljmddjlnlmenaaPk9

section
set_option maxRecDepth 100000
set_option linter.unusedVariables false
namespace Go.Proofs.Ytljmddjlnlmenaa.Dl
open Go.ChangeShapes Go.WideShapes Go.ChangeAt Go.RowKit
open Ap (Unt Tir Prm kUnt kTir row_Unt row_Tir)
open Kd (Kind Row kInt row_int)
open Ko (Out Told Told2 At row_on)
open Ct (nth nth_some netAt netsL sumL sumL_append sumL_next halfN UnitsMay PlacesMay May mayB Far take_next lessU SumOk PlacesIn i64_t cutK cutK_at cutOne cut_one less_get Ls own_down told2_of)
set_option maxHeartbeats 4000000 in
theorem behind_any (p : Prm) (l : Prm.Lay) (A : Option Addr) (n c : Nat) (us : List Unt) (B : Option Addr) (m d : Nat) (ms : List Int) (C : Option Addr) (q e : Nat) (os : List Int) (w : World)
    (h : Row kUnt w (· < w.heap.size) A n us) (hf : Kd.Fit A n c) (hg : Row kInt w (· < w.heap.size) B m ms) (ho : Row kInt w (· < w.heap.size) C q os) (hu : UnitsMay us) (hfi : Fine us ms os) :
    Calls Try.prog 16 #[.agg #[.string p.id, .int .i64 p.kind, .int .i64 p.priority, .string p.group, .string p.code, .bool p.closes, .slice l.scope.skus.A l.scope.skus.n l.scope.skus.c, .slice l.scope.cats.A l.scope.cats.n l.scope.cats.c, .int .i64 p.least, .int .i64 p.rate, .int .i64 p.amount, .int .i64 p.buy, .int .i64 p.get, .slice l.parts.A l.parts.n l.parts.c, .slice l.tiers.A l.tiers.n l.tiers.c], .slice A n c, .slice B m d, .slice C q e] w fun x w' => Ko.Told2 kUnt 34 w x w' (lessU us ms os p.closes).1 (lessU us ms os p.closes).2 := by
  obtain ⟨w1, hw1⟩ : ∃ w1, w.alloc (.cells #[.string p.id, .int .i64 p.kind, .int .i64 p.priority, .string p.group, .string p.code, .bool p.closes, .slice l.scope.skus.A l.scope.skus.n l.scope.skus.c, .slice l.scope.cats.A l.scope.cats.n l.scope.cats.c, .int .i64 p.least, .int .i64 p.rate, .int .i64 p.amount, .int .i64 p.buy, .int .i64 p.get, .slice l.parts.A l.parts.n l.parts.c, .slice l.tiers.A l.tiers.n l.tiers.c] 30) = w1 := ⟨_, rfl⟩
  have hb1 : Below w.heap.size w w1 := by rw [← hw1]; exact (Below.refl _ _).alloc (Nat.le_refl _) _
  have hx : Qu.Blk w1 w.heap.size 30 #[.string p.id, .int .i64 p.kind, .int .i64 p.priority, .string p.group, .string p.code, .bool p.closes, .slice l.scope.skus.A l.scope.skus.n l.scope.skus.c, .slice l.scope.cats.A l.scope.cats.n l.scope.cats.c, .int .i64 p.least, .int .i64 p.rate, .int .i64 p.amount, .int .i64 p.buy, .int .i64 p.get, .slice l.parts.A l.parts.n l.parts.c, .slice l.tiers.A l.tiers.n l.tiers.c] := by rw [← hw1]; exact Qu.Blk.new w _ _
  have hqm : q = m := by rw [← ho.len, ← hg.len]; exact hfi.len
  subst hqm
  have hn5 : n ≤ 100000 := by rw [← h.len]; exact hu.few
  have hm5 : q ≤ 100000 := by rw [← hg.len]; exact Nat.le_trans hfi.apart.few hu.few
  have hin : PlacesIn n ms := by rw [← h.len]; exact hfi.apart.in_
  have HK := Lib.hid (And.intro hb1 (fun u (hu : Below w1.heap.size w1 u) => hx.below hu))
  have HU1 := Lib.hid (row_on h hb1)
  have HG1 := Lib.hid (row_on hg hb1)
  have HO1 := Lib.hid (row_on ho hb1)
  have HC := Lib.hid (Ct.cloneU_any A n c us w1 (row_on h hb1) hf (by omega))
  have hs := hfi.sums hu
  obtain ⟨S, hS⟩ : ∃ s, sumL os = s := ⟨_, rfl⟩
  have HSu := Lib.hid (fun (W : World) (hb : Below w1.heap.size w1 W) => dsum_any C q e os _ W (row_on (row_on ho hb1) hb) (by omega) hs)
  simp only [hS] at HSu
  have HSm := Lib.hid hS
  have HIn := Lib.hid hin
  have HFi := Lib.hid hfi
  have HUM := Lib.hid hu
  have HLm := Lib.hid hg.len
  have c5' : ∀ u, Below w1.heap.size w1 u → u.cell? ⟨w.heap.size, 5, none⟩ = some (.bool p.closes) := fun u hu => (HK.out.2 u hu).cell 5
  clear h hf hg ho hu hfi hb1 hx hs hS hin
  obtain ⟨z, hz⟩ : ∃ z, (S == 0) = z := ⟨_, rfl⟩
  have HZ := Lib.hid hz
  have hcls := c5' w1 (Below.refl _ _)
  cases z with
  | true =>
    have HE : Hid (lessU us ms os p.closes = (us, 0)) := Lib.hid (by unfold lessU; rw [if_pos (by rw [HSm.out]; simpa using HZ.out)])
    go_enter Try.func16, Try.ntmps16
    go_wp2_with (first
      | (go_at_call 13; with_reducible refine HC.out.mono ?_; rintro x w3 ⟨A3, cq, rfl, ho3, hb3⟩; have HO3 := Lib.hid (And.intro ho3 hb3); clear ho3 hb3)
      | (go_at_call 35; with_reducible refine (HSu.out _ HO3.out.2).mono ?_; rintro x wz ⟨rfl, hw⟩; obtain rfl := hw))
    refine bodyPost_ret (results_tmp2 rfl _ _ _) rfl ?_
    rw [HE.out]
    exact told2_of (own_down HO3.out.1 HK.out.1.size) (HK.out.1.trans (HO3.out.2.mono HK.out.1.size)) 0
  | false =>
    have hS0 : ¬ S = 0 := by simpa using HZ.out
    have hm0 : 0 < q := by
      rcases Nat.eq_zero_or_pos q with h0 | h0
      · have : os = [] := List.eq_nil_of_length_eq_zero (by rw [HFi.out.len, HLm.out]; exact h0)
        have h2 := HSm.out
        rw [this] at h2
        exact absurd h2.symm hS0
      · exact h0
    have hn0 : 0 < n := by
      obtain ⟨x, hx⟩ := HG1.out.get hm0
      have := HIn.out 0 x hx
      omega
    have HE : Hid (lessU us ms os p.closes = (cutK us ms os p.closes q, S)) := Lib.hid (by
      have h8 : sumL os ≠ 0 := by rw [HSm.out]; exact hS0
      refine Prod.ext ?_ ?_
      · rw [← cutK_deal HFi.out.apart HFi.out.len h8, HLm.out]
      · unfold lessU; rw [if_neg h8]; exact HSm.out)
    clear hS0
    go_enter Try.func16, Try.ntmps16
    go_wp2_with fail
    refine HC.out.mono ?_
    rintro x w3 ⟨A3, cq, rfl, ho3, hb3⟩
    obtain ⟨g, hgA, hgb, _⟩ := ho3.first hn0
    subst hgA
    have HLs : Hid (Ls w1 w3 g n cq (cutK us ms os p.closes 0)) := Lib.hid ⟨ho3, hb3⟩
    have HgL := Lib.hid (Nat.le_trans HK.out.1.size hgb)
    clear ho3 hb3 hgb
    go_wp2_with (go_at_call 35; with_reducible refine (HSu.out _ HLs.out.below).mono ?_; rintro x wz ⟨rfl, hw⟩; obtain rfl := hw)
    clear hcls
    go_loopw [23] (fun s11 wr => ∃ k : Nat, s11 = .int .i64 k ∧ k ≤ q ∧ Hid (Ls w1 wr g n cq (cutK us ms os p.closes k))) (fun s11 _ => q - (intOf s11).toNat)
    case atStart => exact ⟨0, rfl, by omega, HLs⟩
    case round =>
      clear HLs
      obtain ⟨k, rfl, hk, HO⟩ := hrel
      have kk : (0 : Int) ≤ (k : Int) := by omega
      by_cases hlt : k < q
      · obtain ⟨t0, ht0⟩ := HG1.out.get hlt
        obtain ⟨x0, x1⟩ := HIn.out k t0 ht0
        obtain ⟨t, ht⟩ : ∃ t : Nat, t0 = (t : Int) := ⟨t0.toNat, by omega⟩
        subst ht
        have htn : t < n := by omega
        obtain ⟨o, ho⟩ := HO1.out.get hlt
        obtain ⟨u, hu⟩ := HU1.out.get htn
        have hus : (cutK us ms os p.closes k)[t]? = some u := by
          have := cutK_at (us := us) (os := os) (cl := p.closes) HFi.out.apart.toFar ht0 k (Nat.le_refl k)
          rw [Int.toNat_natCast] at this
          rw [this, hu]
        obtain ⟨v, hv⟩ : ∃ v, u.net - o = v := ⟨_, rfl⟩
        have hvr : -9223372036854775808 ≤ v ∧ v ≤ 9223372036854775807 := by rw [← hv]; exact HFi.out.less HUM.out k (t : Int) o u ht0 ho (by rw [Int.toNat_natCast]; exact hu)
        have wv : IntKind.i64.wrap (u.net - o) = v := by rw [hv]; exact IntWalk.i64_in _ (by omega)
        have hcut : cutK us ms os p.closes (k + 1) = (cutK us ms os p.closes k).modify t (cutOne o p.closes) := by rw [cutK, nth_some ht0, nth_some ho, Int.toNat_natCast]
        have HXm := Lib.hid (HO.out.drew.less hus hv hvr)
        have hM := (HO.out.less hus hv hvr).drew
        obtain ⟨Wm, hWm⟩ : ∃ Wm, (wr.setCell ⟨g, t * 3 + 1, none⟩ (.int .i64 v)).drew = Wm := ⟨_, rfl⟩
        rw [hWm] at hM
        have hme := less_get hus o
        obtain ⟨_, m2, _, mf2, _⟩ := hM.get hme
        have m2' : Wm.cell? ⟨g, t * 3 + 2, none⟩ = some (.bool u.opn) := m2
        have m5 := c5' Wm hM.below
        have hE := hM.flag hme (!p.closes)
        rw [cut_one hus o p.closes, ← hcut] at hE
        have HXe := Lib.hid hE
        have HWm := Lib.hid hWm
        obtain ⟨d2, _, df2, _, _⟩ := HO.out.get hus
        obtain ⟨g1, o1, rfl, hg1, _, _, a1⟩ := row_int HG1.out ht0
        obtain ⟨g6, o6, rfl, hg6, _, _, a6⟩ := row_int HO1.out ho
        have d1 : ∀ u, Below w1.heap.size w1 u → u.cell? ⟨g1, o1 + k, none⟩ = some (.int .i64 (t : Int)) := fun u hu => (hu.cell (p := ⟨g1, _, none⟩) hg1).trans a1
        have d3 : ∀ u, Below w1.heap.size w1 u → u.cell? ⟨g6, o6 + k, none⟩ = some (.int .i64 o) := fun u hu => (hu.cell (p := ⟨g6, _, none⟩) hg6).trans a6
        have d1r := d1 wr HO.out.below
        have k1 : (k : Int) < (q : Int) := by omega
        have t0 : (0 : Int) ≤ (t : Int) := by omega
        have t1 : (t : Int) < (n : Int) := by omega
        clear ht0 ho hu hus hv hvr hcut hM hme m2 hE hWm a1 hg1 a6 hg6 x0 x1
        go_wp2_with fail
        refine wp_region_held_drew (S := fun u => Below w1.heap.size w1 u) (by kernel_rfl) (HO.out.below.drew) (fun hS0 => ?_)
        refine pkT 0 28 hS0 ?_
        try simp only [Act.put, pkA, pkB, pkC]
        refine pkT 1 29 hS0 ?_
        try simp only [Act.put, pkA, pkB, pkC]
        refine pkT 2 30 hS0 ?_
        try simp only [Act.put, pkA, pkB, pkC]
        refine pkT 3 31 hS0 ?_
        try simp only [Act.put, pkA, pkB, pkC]
        refine pkT 5 33 hS0 ?_
        try simp only [Act.put, pkA, pkB, pkC]
        refine pkT 6 34 hS0 ?_
        try simp only [Act.put, pkA, pkB, pkC]
        refine pkT 7 35 hS0 ?_
        try simp only [Act.put, pkA, pkB, pkC]
        refine pkT 8 36 hS0 ?_
        try simp only [Act.put, pkA, pkB, pkC]
        refine wpAnyH_ready (rs := [4]) (by kernel_rfl) (by simp) ?_
        refine AllReadyH.cons (o := ⟨some 32, _, _, _, _, _⟩) rfl (fun K hK => ?_) AllReadyH.nil
        go_simp
        refine hK.out _ _ (hS0) (fun hS1 => ?_)
        clear hK K
        try simp only [Act.put, pkA, pkB, pkC]
        refine pkT 9 37 hS1 ?_
        try simp only [Act.put, pkA, pkB, pkC]
        refine pkT 10 38 hS1 ?_
        try simp only [Act.put, pkA, pkB, pkC]
        refine pkT 11 39 hS1 ?_
        try simp only [Act.put, pkA, pkB, pkC]
        refine wpAnyH_ready (rs := [12]) (by kernel_rfl) (by simp) ?_
        refine AllReadyH.cons (o := ⟨none, _, _, _, _, _⟩) rfl (fun K hK => ?_) AllReadyH.nil
        go_simp
        refine hK.out _ _ (HXm.out.below) (fun hS2 => ?_)
        clear hK K
        try simp only [Act.put, pkA, pkB, pkC]
        refine wpAnyH_done (by kernel_rfl) ?_ _
        rw [HWm.out]
        clear HWm
        go_wp2_with fail
        go_roundw
        case rel => exact ⟨k + 1, by go_num, by omega, HXe⟩
        case measure => simp [intOf]; omega
      · have k1 : ¬ (k : Int) < (q : Int) := by omega
        obtain rfl : k = q := by omega
        go_wp2
        refine bodyPost_ret (results_tmp2 rfl _ _ _) rfl ?_
        rw [HE.out]
        exact told2_of (own_down HO.out.own HK.out.1.size) (HK.out.1.trans (HO.out.below.mono HK.out.1.size)) S
end Go.Proofs.Ytljmddjlnlmenaa.Dl

end

section
set_option maxRecDepth 100000
set_option linter.unusedVariables false
namespace Go.Proofs.Ytljmddjlnlmenaa.Gd
open Go.ChangeShapes Go.WideShapes Go.ChangeAt Go.RowKit
open It (Itm kItem row_item row_ok)
open Kd (Row Fit)
theorem plain_any (z : Int) (w : World) (h0 : 0 ≤ z) (h1 : z ≤ 255) : Calls Try.prog 58 #[.int .u8 z] w fun e w' => e = .returned (.bool (Sr.plain z)) ∧ w' = w := by
  obtain ⟨hp, c1, c2⟩ | ⟨hp, c1, c2, c3⟩ | ⟨hp, c1, c2⟩ | ⟨hp, c1, d0⟩ | ⟨hp, c1, c2, d0⟩ | ⟨hp, c1, d0⟩ := Py.plain_cases z
  · rw [hp]; clear hp
    go_enter Try.func58, Try.ntmps58
    go_wp2
    go_ret
    exact ⟨rfl, rfl⟩
  · rw [hp]; clear hp
    have d1 : ¬ (97 : Int) ≤ z := by omega
    go_enter Try.func58, Try.ntmps58
    go_wp2
    go_ret
    exact ⟨rfl, rfl⟩
  · rw [hp]; clear hp
    subst c2
    go_enter Try.func58, Try.ntmps58
    go_wp2
    go_ret
    exact ⟨rfl, rfl⟩
  · rw [hp]; clear hp
    have d1 : (97 : Int) ≤ z := by omega
    have d2 : ¬ z ≤ (122 : Int) := by omega
    have d3 : (48 : Int) ≤ z := by omega
    have d4 : ¬ z ≤ (57 : Int) := by omega
    have d5 : (z == 45) = false := beq_eq_false_iff_ne.2 d0
    go_enter Try.func58, Try.ntmps58
    go_wp2
    go_ret
    exact ⟨rfl, rfl⟩
  · rw [hp]; clear hp
    have d1 : ¬ (97 : Int) ≤ z := by omega
    have d3 : (48 : Int) ≤ z := by omega
    have d4 : ¬ z ≤ (57 : Int) := by omega
    have d5 : (z == 45) = false := beq_eq_false_iff_ne.2 (by omega)
    go_enter Try.func58, Try.ntmps58
    go_wp2
    go_ret
    exact ⟨rfl, rfl⟩
  · rw [hp]; clear hp
    have d1 : ¬ (97 : Int) ≤ z := by omega
    have d3 : ¬ (48 : Int) ≤ z := by omega
    have d5 : (z == 45) = false := beq_eq_false_iff_ne.2 d0
    go_enter Try.func58, Try.ntmps58
    go_wp2
    go_ret
    exact ⟨rfl, rfl⟩
set_option maxHeartbeats 1000000 in
theorem name_any (s : ByteArray) (w : World) (hs : s.size ≤ maxLen) : Calls Try.prog 46 #[.string s] w fun e w' => e = .returned (.bool (Sr.name s)) ∧ w' = w := by
  unfold maxLen at hs
  by_cases c1 : s.size < 1
  · have d1 : (s.size : Int) < 1 := by omega
    have HF := Lib.hid (Sr.name_none c1)
    clear c1
    go_enter Try.func46, Try.ntmps46
    go_wp2
    go_ret
    exact ⟨by rw [HF.out]; rfl, rfl⟩
  by_cases c2 : 12 < s.size
  · have d1 : ¬ (s.size : Int) < 1 := by omega
    have d2 : (12 : Int) < (s.size : Int) := by omega
    have HF := Lib.hid (Sr.name_long c2)
    clear c1 c2
    go_enter Try.func46, Try.ntmps46
    go_wp2
    go_ret
    exact ⟨by rw [HF.out]; rfl, rfl⟩
  have d1 : ¬ (s.size : Int) < 1 := by omega
  have d2 : ¬ (12 : Int) < (s.size : Int) := by omega
  have hA := fun k (hk : k < s.size) W => Py.run_at 9 Try.underlying9 s k hk W
  have HA := Lib.hid hA
  clear hA
  go_enter Try.func46, Try.ntmps46
  go_wp2
  go_loopw [14] (fun s3 wr => ∃ k : Nat, s3 = .int .i64 k ∧ k ≤ s.size ∧ wr = w ∧ ∀ (j : Nat) (b : UInt8), j < k → s.data.toList[j]? = some b → Sr.plain (b.toNat : Int) = true) (fun s3 _ => s.size - (intOf s3).toNat)
  case atStart => exact ⟨0, rfl, by omega, rfl, fun j b hj => by omega⟩
  case round =>
    obtain ⟨k, rfl, hk, rfl, hE⟩ := hrel
    have HE := Lib.hid hE
    clear hE
    by_cases h1 : k < s.size
    · have k1 : (k : Int) < (s.size : Int) := by omega
      have hi := HA.out k h1 wr
      obtain ⟨b, hb1, hb2⟩ := Py.byte_at h1
      rw [hb2] at hi
      have HB := Lib.hid hb1
      have hbn := By.at_in s.data.toList k
      rw [hb2] at hbn
      clear hb1 hb2
      obtain ⟨z, hz⟩ : ∃ z : Int, (b.toNat : Int) = z := ⟨_, rfl⟩
      have HZ := Lib.hid hz
      rw [hz] at hi hbn
      clear hz
      have HC := Lib.hid (plain_any z wr hbn.1 hbn.2)
      cases hp : Sr.plain z with
      | true =>
        rw [hp] at HC
        have HP := Lib.hid hp
        clear hp
        go_wp2_with fail
        refine HC.out.mono ?_
        rintro e w1 ⟨rfl, rfl⟩
        go_wp2
        go_roundw
        case rel => exact ⟨k + 1, by go_num, by omega, by trivial, fun j b' hj hb' => by
          rcases Nat.lt_or_ge j k with h | h
          · exact HE.out j b' h hb'
          · obtain rfl : j = k := by omega
            rw [HB.out] at hb'
            injection hb' with hb'
            subst hb'
            rw [HZ.out]; exact HP.out⟩
        case measure => simp [intOf]; omega
      | false =>
        rw [hp] at HC
        have HF := Lib.hid (Sr.name_bad HB.out (by rw [HZ.out]; exact hp))
        clear hp
        go_wp2_with fail
        refine HC.out.mono ?_
        rintro e w1 ⟨rfl, rfl⟩
        go_wp2
        go_ret
        exact ⟨by rw [HF.out]; rfl, rfl⟩
    · have k1 : ¬ (k : Int) < (s.size : Int) := by omega
      have HF : Hid (Sr.name s = true) := Lib.hid (by
        rw [Sr.name_size fun j b hj => HE.out j b (by
          have := (List.getElem?_eq_some_iff.1 hj).1
          rw [By.size_list] at this
          omega) hj]
        simp
        omega)
      go_wp2
      go_ret
      exact ⟨by rw [HF.out]; rfl, rfl⟩
/-! ### What rises -/
end Go.Proofs.Ytljmddjlnlmenaa.Gd

end

section
set_option maxRecDepth 100000
set_option linter.unusedVariables false
namespace Go.Proofs.Ytljmddjlnlmenaa.Pm
open Go.ChangeShapes Go.WideShapes Go.ChangeAt Go.RowKit
open Ap (Scp Prt Tir Prm)
def inR (x a b : Int) : Bool := decide (a ≤ x) && decide (x ≤ b)
theorem inR_yes {x a b : Int} (h : a ≤ x) (k : x ≤ b) : inR x a b = true := by unfold inR; rw [decide_eq_true h, decide_eq_true k]; rfl
theorem inR_low {x a b : Int} (h : x < a) : inR x a b = false := by unfold inR; rw [decide_eq_false (by omega)]; rfl
theorem inR_high {x a b : Int} (h : b < x) : inR x a b = false := by unfold inR; rw [decide_eq_false (p := x ≤ b) (by omega), Bool.and_false]
theorem within64_any (x a b : Int) (w : World) : Calls Try.prog 42 #[.int .i64 x, .int .i64 a, .int .i64 b] w fun e w' => e = .returned (.bool (inR x a b)) ∧ w' = w := by
  by_cases h1 : a ≤ x
  · by_cases h2 : x ≤ b
    · have HG := Lib.hid (inR_yes h1 h2)
      go_enter Try.func42, Try.ntmps42
      go_wp2
      go_ret
      exact ⟨by rw [HG.out]; rfl, rfl⟩
    · have HG := Lib.hid (inR_high (a := a) (x := x) (b := b) (by omega))
      go_enter Try.func42, Try.ntmps42
      go_wp2
      go_ret
      exact ⟨by rw [HG.out]; rfl, rfl⟩
  · have HG := Lib.hid (inR_low (a := a) (x := x) (b := b) (by omega))
    go_enter Try.func42, Try.ntmps42
    go_wp2
    go_ret
    exact ⟨by rw [HG.out]; rfl, rfl⟩
theorem within_any (x a b : Int) (w : World) : Calls Try.prog 43 #[.int .i64 x, .int .i64 a, .int .i64 b] w fun e w' => e = .returned (.bool (inR x a b)) ∧ w' = w := by
  by_cases h1 : a ≤ x
  · by_cases h2 : x ≤ b
    · have HG := Lib.hid (inR_yes h1 h2)
      go_enter Try.func43, Try.ntmps43
      go_wp2
      go_ret
      exact ⟨by rw [HG.out]; rfl, rfl⟩
    · have HG := Lib.hid (inR_high (a := a) (x := x) (b := b) (by omega))
      go_enter Try.func43, Try.ntmps43
      go_wp2
      go_ret
      exact ⟨by rw [HG.out]; rfl, rfl⟩
  · have HG := Lib.hid (inR_low (a := a) (x := x) (b := b) (by omega))
    go_enter Try.func43, Try.ntmps43
    go_wp2
    go_ret
    exact ⟨by rw [HG.out]; rfl, rfl⟩
theorem blank_any (s : ByteArray) (w : World) (hs : s.size ≤ maxLen) : Calls Try.prog 47 #[.string s] w fun e w' => e = .returned (.bool (Pr.blankB s)) ∧ w' = w := by
  have HN := Lib.hid (fun W => Gd.name_any s W hs)
  clear hs
  cases e : s.toList.isEmpty with
  | true =>
    have HG : Hid (Pr.blankB s = true) := Lib.hid (by unfold Pr.blankB; rw [e]; rfl)
    have g : s.toList = [] := List.isEmpty_iff.1 e
    clear e
    go_enter Try.func47, Try.ntmps47
    go_wp2
    go_ret
    exact ⟨by rw [HG.out]; rfl, rfl⟩
  | false =>
    have g : ¬ s.toList = [] := fun k => by rw [k] at e; cases e
    have HG : Hid (Pr.blankB s = Sr.name s) := Lib.hid (by unfold Pr.blankB; rw [e]; rfl)
    have HE := Lib.hid e
    obtain ⟨b, hb⟩ : ∃ b, Sr.name s = b := ⟨_, rfl⟩
    simp only [hb] at HN HG
    clear e hb
    go_enter Try.func47, Try.ntmps47
    go_wp2_with fail
    refine (HN.out _).mono ?_
    rintro e w1 ⟨rfl, rfl⟩
    go_wp2
    go_ret
    refine ⟨?_, rfl⟩
    rw [HG.out]
    show Ending.returned (.bool (s.toList.isEmpty || b)) = _
    rw [HE.out]; rfl
def wh (t : Int) (b : Bool) : Int := if b then t else 0
theorem where_any (t : Int) (b : Bool) (w : World) : Calls Try.prog 48 #[.int .i64 t, .bool b] w fun e w' => e = .returned (.int .i64 (wh t b)) ∧ w' = w := by
  cases b with
  | true =>
    have HG : Hid (wh t true = t) := Lib.hid rfl
    go_enter Try.func48, Try.ntmps48
    go_wp2
    go_ret
    exact ⟨by rw [HG.out]; rfl, rfl⟩
  | false =>
    have HG : Hid (wh t false = 0) := Lib.hid rfl
    go_enter Try.func48, Try.ntmps48
    go_wp2
    go_ret
    exact ⟨by rw [HG.out]; rfl, rfl⟩
theorem rate_any (p : Prm) (l : Prm.Lay) (w : World) : Calls Try.prog 22 #[.agg #[.string p.id, .int .i64 p.kind, .int .i64 p.priority, .string p.group, .string p.code, .bool p.closes, .slice l.scope.skus.A l.scope.skus.n l.scope.skus.c, .slice l.scope.cats.A l.scope.cats.n l.scope.cats.c, .int .i64 p.least, .int .i64 p.rate, .int .i64 p.amount, .int .i64 p.buy, .int .i64 p.get, .slice l.parts.A l.parts.n l.parts.c, .slice l.tiers.A l.tiers.n l.tiers.c]] w fun e w' => e = .returned (.bool (inR p.rate 1 10000)) ∧ Below w.heap.size w w' := by
  have HW := Lib.hid (fun W => within64_any p.rate 1 10000 W)
  have HB : Hid (∀ o, Below w.heap.size w (w.alloc o)) := Lib.hid fun o => (Below.refl _ _).alloc (Nat.le_refl _) _
  obtain ⟨b, hb⟩ : ∃ b, inR p.rate 1 10000 = b := ⟨_, rfl⟩
  simp only [hb] at HW ⊢
  clear hb
  go_enter Try.func22, Try.ntmps22
  go_wp2_with fail
  refine (HW.out _).mono ?_
  rintro e w1 ⟨rfl, rfl⟩
  go_wp2
  go_ret
  exact ⟨rfl, HB.out _⟩
theorem amount_any (p : Prm) (l : Prm.Lay) (w : World) : Calls Try.prog 23 #[.agg #[.string p.id, .int .i64 p.kind, .int .i64 p.priority, .string p.group, .string p.code, .bool p.closes, .slice l.scope.skus.A l.scope.skus.n l.scope.skus.c, .slice l.scope.cats.A l.scope.cats.n l.scope.cats.c, .int .i64 p.least, .int .i64 p.rate, .int .i64 p.amount, .int .i64 p.buy, .int .i64 p.get, .slice l.parts.A l.parts.n l.parts.c, .slice l.tiers.A l.tiers.n l.tiers.c]] w fun e w' => e = .returned (.bool (inR p.amount 1 1000000000)) ∧ Below w.heap.size w w' := by
  have HW := Lib.hid (fun W => within64_any p.amount 1 1000000000 W)
  have HB : Hid (∀ o, Below w.heap.size w (w.alloc o)) := Lib.hid fun o => (Below.refl _ _).alloc (Nat.le_refl _) _
  obtain ⟨b, hb⟩ : ∃ b, inR p.amount 1 1000000000 = b := ⟨_, rfl⟩
  simp only [hb] at HW ⊢
  clear hb
  go_enter Try.func23, Try.ntmps23
  go_wp2_with fail
  refine (HW.out _).mono ?_
  rintro e w1 ⟨rfl, rfl⟩
  go_wp2
  go_ret
  exact ⟨rfl, HB.out _⟩
def takesB (t : Tir) : Bool := inR t.rate 0 10000 && inR t.amount 0 10000000000000 && (decide (0 < t.rate) || decide (0 < t.amount))
theorem takesB_def (t : Tir) : takesB t = (inR t.rate 0 10000 && inR t.amount 0 10000000000000 && (decide (0 < t.rate) || decide (0 < t.amount))) := rfl
set_option maxHeartbeats 1000000 in
theorem takes_any (t : Tir) (w : World) : Calls Try.prog 45 #[.agg #[.int .i64 t.least, .int .i64 t.rate, .int .i64 t.amount]] w fun e w' => e = .returned (.bool (takesB t)) ∧ Below w.heap.size w w' := by
  have HR := Lib.hid (fun W => within64_any t.rate 0 10000 W)
  have HA := Lib.hid (fun W => within64_any t.amount 0 10000000000000 W)
  have HB : Hid (∀ o, Below w.heap.size w (w.alloc o)) := Lib.hid fun o => (Below.refl _ _).alloc (Nat.le_refl _) _
  have HD := Lib.hid (takesB_def t)
  cases b1 : inR t.rate 0 10000 with
  | false =>
    simp only [b1] at HR
    have HG : Hid (takesB t = false) := Lib.hid (by rw [HD.out, b1]; rfl)
    clear b1
    go_enter Try.func45, Try.ntmps45
    go_wp2_with fail
    refine (HR.out _).mono ?_
    rintro e w1 ⟨rfl, rfl⟩
    go_wp2
    go_ret
    exact ⟨by rw [HG.out]; rfl, HB.out _⟩
  | true =>
    simp only [b1] at HR
    cases b2 : inR t.amount 0 10000000000000 with
    | false =>
      simp only [b2] at HA
      have HG : Hid (takesB t = false) := Lib.hid (by rw [HD.out, b1, b2]; rfl)
      clear b1 b2
      go_enter Try.func45, Try.ntmps45
      go_wp2_with fail
      refine (HR.out _).mono ?_
      rintro e w1 ⟨rfl, rfl⟩
      go_wp2_with fail
      refine (HA.out _).mono ?_
      rintro e w1 ⟨rfl, rfl⟩
      go_wp2
      go_ret
      exact ⟨by rw [HG.out]; rfl, HB.out _⟩
    | true =>
      simp only [b2] at HA
      by_cases h1 : 0 < t.rate
      · have HG : Hid (takesB t = true) := Lib.hid (by rw [HD.out, b1, b2, decide_eq_true h1]; rfl)
        clear b1 b2
        go_enter Try.func45, Try.ntmps45
        go_wp2_with fail
        refine (HR.out _).mono ?_
        rintro e w1 ⟨rfl, rfl⟩
        go_wp2_with fail
        refine (HA.out _).mono ?_
        rintro e w1 ⟨rfl, rfl⟩
        go_wp2
        go_ret
        exact ⟨by rw [HG.out]; rfl, HB.out _⟩
      · have HG : Hid (takesB t = decide (0 < t.amount)) := Lib.hid (by rw [HD.out, b1, b2, decide_eq_false h1]; rfl)
        clear b1 b2
        go_enter Try.func45, Try.ntmps45
        go_wp2_with fail
        refine (HR.out _).mono ?_
        rintro e w1 ⟨rfl, rfl⟩
        go_wp2_with fail
        refine (HA.out _).mono ?_
        rintro e w1 ⟨rfl, rfl⟩
        go_wp2
        go_ret
        refine ⟨?_, HB.out _⟩
        rw [HG.out]
        show Ending.returned (.bool (decide (0 < t.rate) || decide (0 < t.amount))) = _
        rw [decide_eq_false (by omega : ¬ 0 < t.rate)]; rfl
def rowsB (p : Prm) : Bool := inR p.buy 1 100 && inR p.get 1 100 && inR p.rate 1 10000
theorem rowsB_def (p : Prm) : rowsB p = (inR p.buy 1 100 && inR p.get 1 100 && inR p.rate 1 10000) := rfl
set_option maxHeartbeats 2000000 in
theorem rows_any (p : Prm) (l : Prm.Lay) (w : World) : Calls Try.prog 24 #[.agg #[.string p.id, .int .i64 p.kind, .int .i64 p.priority, .string p.group, .string p.code, .bool p.closes, .slice l.scope.skus.A l.scope.skus.n l.scope.skus.c, .slice l.scope.cats.A l.scope.cats.n l.scope.cats.c, .int .i64 p.least, .int .i64 p.rate, .int .i64 p.amount, .int .i64 p.buy, .int .i64 p.get, .slice l.parts.A l.parts.n l.parts.c, .slice l.tiers.A l.tiers.n l.tiers.c]] w fun e w' => e = .returned (.bool (rowsB p)) ∧ Below w.heap.size w w' := by
  have H1 := Lib.hid (fun W => within_any p.buy 1 100 W)
  have H2 := Lib.hid (fun W => within_any p.get 1 100 W)
  have H3 := Lib.hid (fun W => rate_any p l W)
  obtain ⟨w1, hw1⟩ : ∃ w1, w.alloc (.cells #[.string p.id, .int .i64 p.kind, .int .i64 p.priority, .string p.group, .string p.code, .bool p.closes, .slice l.scope.skus.A l.scope.skus.n l.scope.skus.c, .slice l.scope.cats.A l.scope.cats.n l.scope.cats.c, .int .i64 p.least, .int .i64 p.rate, .int .i64 p.amount, .int .i64 p.buy, .int .i64 p.get, .slice l.parts.A l.parts.n l.parts.c, .slice l.tiers.A l.tiers.n l.tiers.c] 66) = w1 := ⟨_, rfl⟩
  have hx : Qu.Blk w1 w.heap.size 66 #[.string p.id, .int .i64 p.kind, .int .i64 p.priority, .string p.group, .string p.code, .bool p.closes, .slice l.scope.skus.A l.scope.skus.n l.scope.skus.c, .slice l.scope.cats.A l.scope.cats.n l.scope.cats.c, .int .i64 p.least, .int .i64 p.rate, .int .i64 p.amount, .int .i64 p.buy, .int .i64 p.get, .slice l.parts.A l.parts.n l.parts.c, .slice l.tiers.A l.tiers.n l.tiers.c] := by rw [← hw1]; exact Qu.Blk.new w _ _
  have HB : Hid (Below w.heap.size w w1) := Lib.hid (by rw [← hw1]; exact (Below.refl _ _).alloc (Nat.le_refl _) _)
  have x0 := hx.cell 0
  have x1 := hx.cell 1
  have x2 := hx.cell 2
  have x3 := hx.cell 3
  have x4 := hx.cell 4
  have x5 := hx.cell 5
  have x6 := hx.cell 6
  have x7 := hx.cell 7
  have x8 := hx.cell 8
  have x9 := hx.cell 9
  have x10 := hx.cell 10
  have x11 := hx.cell 11
  have x12 := hx.cell 12
  have x13 := hx.cell 13
  have x14 := hx.cell 14
  have HD := Lib.hid (rowsB_def p)
  clear hx
  cases b1 : inR p.buy 1 100 with
  | false =>
    simp only [b1] at H1
    have HG : Hid (rowsB p = false) := Lib.hid (by rw [HD.out, b1]; rfl)
    clear b1
    go_enter Try.func24, Try.ntmps24
    go_wp2_with fail
    refine (H1.out _).mono ?_
    rintro e w2 ⟨rfl, rfl⟩
    go_wp2
    go_ret
    exact ⟨by rw [HG.out]; rfl, HB.out⟩
  | true =>
    simp only [b1] at H1
    cases b2 : inR p.get 1 100 with
    | false =>
      simp only [b2] at H2
      have HG : Hid (rowsB p = false) := Lib.hid (by rw [HD.out, b1, b2]; rfl)
      clear b1 b2
      go_enter Try.func24, Try.ntmps24
      go_wp2_with fail
      refine (H1.out _).mono ?_
      rintro e w2 ⟨rfl, rfl⟩
      go_wp2_with fail
      refine (H2.out _).mono ?_
      rintro e w2 ⟨rfl, rfl⟩
      go_wp2
      go_ret
      exact ⟨by rw [HG.out]; rfl, HB.out⟩
    | true =>
      simp only [b2] at H2
      have HG : Hid (rowsB p = inR p.rate 1 10000) := Lib.hid (by rw [HD.out, b1, b2]; rfl)
      obtain ⟨b, hb⟩ : ∃ b, inR p.rate 1 10000 = b := ⟨_, rfl⟩
      simp only [hb] at H3 HG
      clear b1 b2 hb
      go_enter Try.func24, Try.ntmps24
      go_wp2_with fail
      refine (H1.out _).mono ?_
      rintro e w2 ⟨rfl, rfl⟩
      go_wp2_with fail
      refine (H2.out _).mono ?_
      rintro e w2 ⟨rfl, rfl⟩
      go_wp2_with fail
      refine (H3.out _).mono ?_
      rintro e w3 ⟨rfl, hb3⟩
      have HB3 := Lib.hid (HB.out.trans (hb3.mono HB.out.size))
      clear hb3
      go_wp2
      go_ret
      exact ⟨by rw [HG.out]; rfl, HB3.out⟩
end Go.Proofs.Ytljmddjlnlmenaa.Pm

end

section
set_option maxRecDepth 100000
set_option linter.unusedVariables false
namespace Go.Proofs.Ytljmddjlnlmenaa.Sc
open Go.ChangeShapes Go.WideShapes Go.ChangeAt Go.RowKit
open It (Itm kItem row_item)
open Ap (Scp kScp row_Scp)
open Kd (Row Fit Lst Sl kStr kInt kList row_str Deep But Own)
theorem leq_str (a b : ByteArray) (W : World) : (binOp .leq 9 (.string a) (.string b)).run Try.prog W = .ok (.bool (!Sr.lt b a)) W := by
  have e : binOp .leq 9 (.string a) (.string b) = pure (.bool (Op.bytesLess a.toList b.toList || a.toList == b.toList)) := by simp [binOp, Op.stringOp]
  rw [e, Sr.le_iff]
  rfl
def Small (l : Scp.Lay) : Prop := l.skus.n ≤ 9223372036854775807 ∧ l.cats.n ≤ 9223372036854775807
end Go.Proofs.Ytljmddjlnlmenaa.Sc

end

section
set_option maxRecDepth 100000
set_option linter.unusedVariables false
namespace Go.Proofs.Ytljmddjlnlmenaa.Pr
open Go.ChangeShapes Go.WideShapes Go.ChangeAt Go.RowKit
open Ap (Scp Prt Tir Prm kPrt kTir kPrm row_Prt row_Tir)
open Kd (Row Fit Lst Sl kStr kInt kList row_str)
def PartsSmall (l : List Prt) : Prop := ∀ (k : Nat) (p : Prt), l[k]? = some p → p.scope.skus.length ≤ 9223372036854775807 ∧ p.scope.cats.length ≤ 9223372036854775807
end Go.Proofs.Ytljmddjlnlmenaa.Pr

end
