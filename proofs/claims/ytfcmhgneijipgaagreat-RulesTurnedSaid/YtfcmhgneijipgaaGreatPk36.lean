/- The statements' catalogue: Items, its items, and that it may be. -/
import Derived.Deep.CutBlock
import Derived.Deep.DeepCutAuto
import Derived.Test.YtfcmhgneijipgaaGreatPk2
import Derived.Test.YtfcmhgneijipgaaGreatPk23
import Derived.Test.YtfcmhgneijipgaaGreatPk28
import Derived.Test.YtfcmhgneijipgaaGreatPk3

set_option maxRecDepth 100000
set_option linter.unusedVariables false
namespace Go.Proofs.YtfcmhgneijipgaaGreat.Py
open Go.ChangeShapes Go.WideShapes Go.ChangeAt Go.RowKit
open It (Itm kItem row_item row_ok item_rep)
open Kd (Kind Row Own Cells Fit Agree)
open Gd (Rise Good goodB goodB_yes itemB)
def itemAt (xs : List Itm) (k : Nat) : Itm :=
  match xs[k]? with
  | none => ⟨skuS k, catS (k % 3), 100 + 37 * (k : Int), false⟩
  | some x => ⟨skuS k, catS (modN (pickS x.cat) 3), (modN x.price 4000 : Int), x.fin && k == 7⟩
def itemsOf (xs : List Itm) : List Itm := (List.range 8).map (itemAt xs)
theorem itemsOf_length (xs : List Itm) : (itemsOf xs).length = 8 := by simp [itemsOf]
theorem itemsOf_at {xs : List Itm} {k : Nat} {x : Itm} (h : (itemsOf xs)[k]? = some x) : k < 8 ∧ x = itemAt xs k := by
  have hl := (List.getElem?_eq_some_iff.1 h).1
  rw [itemsOf_length] at hl
  unfold itemsOf at h
  rw [List.getElem?_map, List.getElem?_range hl] at h
  exact ⟨hl, by simpa using h.symm⟩
theorem itemsOf_get (xs : List Itm) {k : Nat} (h : k < 8) : (itemsOf xs)[k]? = some (itemAt xs k) := by
  unfold itemsOf
  rw [List.getElem?_map, List.getElem?_range h]
  rfl
theorem itemAt_sku (xs : List Itm) (k : Nat) : (itemAt xs k).sku = skuS k := by
  unfold itemAt
  split <;> rfl
theorem cat_item (xs : List Itm) (k : Nat) : ∃ c, c < 3 ∧ (itemAt xs k).cat = catS c := by
  unfold itemAt
  split
  · exact ⟨k % 3, Nat.mod_lt _ (by omega), rfl⟩
  · rename_i x _
    exact ⟨_, by have := modN_lt (pickS x.cat) 3 (by omega); omega, rfl⟩
theorem price_item (xs : List Itm) {k : Nat} (h : k < 8) : 0 ≤ (itemAt xs k).price ∧ (itemAt xs k).price < 4000 := by
  unfold itemAt
  split
  · show 0 ≤ 100 + 37 * (k : Int) ∧ 100 + 37 * (k : Int) < 4000
    omega
  · rename_i x _
    have := modN_lt x.price 4000 (by omega)
    show 0 ≤ (modN x.price 4000 : Int) ∧ (modN x.price 4000 : Int) < 4000
    omega
theorem item_fine (xs : List Itm) {k : Nat} (h : k < 8) : itemB (itemAt xs k) = true := by
  obtain ⟨c, hc, e⟩ := cat_item xs k
  have hp := price_item xs h
  unfold itemB
  rw [itemAt_sku, e, sku_name (by omega), cat_name hc]
  simp
  omega
theorem item_okay (xs : List Itm) {k : Nat} (h : k < 8) : (itemAt xs k).ok := by
  obtain ⟨c, hc, e⟩ := cat_item xs k
  have hp := price_item xs h
  refine ⟨?_, ?_, by omega, by omega⟩
  · rw [itemAt_sku]; unfold skuS; rw [chr_size]; decide
  · rw [e]; unfold catS; rw [chr_size]; decide
theorem items_rise (xs : List Itm) : Rise (itemsOf xs) := fun i x y hx hy => by
  obtain ⟨h1, rfl⟩ := itemsOf_at hx
  obtain ⟨h2, rfl⟩ := itemsOf_at hy
  rw [itemAt_sku, itemAt_sku]
  exact chr_lt (by omega) (by omega)
theorem items_good (xs : List Itm) : Gd.Good (itemsOf xs) := ⟨by rw [itemsOf_length]; omega, items_rise xs, fun i x hx => by
  obtain ⟨h1, rfl⟩ := itemsOf_at hx
  exact item_fine xs h1⟩
theorem seven (k : Nat) : ((k : Int) == 7) = (k == 7) := by
  by_cases h : k = 7
  · subst h; rfl
  · rw [beq_eq_false_iff_ne.2 h, beq_eq_false_iff_ne.2 (by omega)]
theorem mod3 (k : Nat) (h : k < 8) : modN (k : Int) 3 = k % 3 := by
  unfold modN
  rw [IntKind.wrap_u64, Int.emod_eq_of_lt (a := (k : Int)) (by omega) (by omega)]
  omega
structure Made (w wr : World) (v : Value) (k : Nat) (xs : List Itm) : Prop where
  own : Own kItem wr w.heap.size 44 (fun _ => False) v k ((itemsOf xs).take k)
  below : Below w.heap.size w wr
theorem row_item_t : Kd.RowT Tryz.prog kItem 22 44 (.agg #[.string ⟨#[]⟩, .string ⟨#[]⟩, .int .i64 0, .bool false]) 4 48 :=
  ⟨Tryz.underlying22, It.info_item, rfl, rfl, by omega, fun h => by
    obtain ⟨rfl, _⟩ := item_rep.1 h
    exact It.enc_one _⟩
theorem itemAt_none {xs : List Itm} {k : Nat} (h : xs[k]? = none) : itemAt xs k = ⟨skuS k, catS (k % 3), 100 + 37 * (k : Int), false⟩ := by unfold itemAt; rw [h]
theorem itemAt_some {xs : List Itm} {k : Nat} {x : Itm} (h : xs[k]? = some x) : itemAt xs k = ⟨skuS k, catS (modN (pickS x.cat) 3), (modN x.price 4000 : Int), x.fin && k == 7⟩ := by unfold itemAt; rw [h]
structure Box0 (w0 u : World) (bx : Nat) (s : ByteArray) : Prop where
  held : Kd.Held w0 u bx 44 4
  first : u.cell? ⟨bx, 0, none⟩ = some (.string s)
section
variable {w0 u u' : World} {bx : Nat} {s : ByteArray}
theorem Box0.on (h : Box0 w0 u bx s) (hb : Below u.heap.size u u') : Box0 w0 u' bx s := ⟨h.held.on hb, by
  obtain ⟨cur, hbk, _⟩ := h.held.box
  exact (hb.cell (p := ⟨bx, 0, none⟩) hbk.lt).trans h.first⟩
theorem Box0.drew (h : Box0 w0 u bx s) : Box0 w0 u.drew bx s := ⟨h.held.drew, h.first⟩
theorem Box0.put (h : Box0 w0 u bx s) (i : Nat) (v : Value) (hi : 0 < i) : Box0 w0 (u.setCell ⟨bx, i, none⟩ v) bx s := ⟨h.held.put i v, by
  obtain ⟨cur, hbk, hs⟩ := h.held.box
  have h1 := h.first
  rw [hbk.cell] at h1
  rw [(hbk.put i v).cell, Array.getElem?_setIfInBounds_ne (by omega)]
  exact h1⟩
theorem box0_done (h : Box0 w0 u bx s) (cs : ByteArray) (pr : Int) (b : Bool) : Qu.Blk (((u.setCell ⟨bx, 1, none⟩ (.string cs)).setCell ⟨bx, 2, none⟩ (.int .i64 pr)).setCell ⟨bx, 3, none⟩ (.bool b)) bx 44 #[.string s, .string cs, .int .i64 pr, .bool b] := by
  obtain ⟨cur, hbk, hs⟩ := h.held.box
  have h1 := h.first
  rw [hbk.cell] at h1
  have h2 := ((hbk.put 1 (.string cs)).put 2 (.int .i64 pr)).put 3 (.bool b)
  have e : ((cur.setIfInBounds 1 (.string cs)).setIfInBounds 2 (.int .i64 pr)).setIfInBounds 3 (.bool b) = #[.string s, .string cs, .int .i64 pr, .bool b] := by
    obtain ⟨l⟩ := cur
    match l, hs with
    | [a0, a1, a2, a3], _ =>
      have : a0 = .string s := by simpa using h1
      subst this
      rfl
  rw [e] at h2
  exact h2
end
set_option maxHeartbeats 1000000 in
theorem items_any (A : Option Addr) (n c : Nat) (xs : List Itm) (w : World) (h : Row kItem w (· < w.heap.size) A n xs) (hn : n ≤ 1000000000000) :
    Calls Tryz.prog 27 #[.slice A n c] w fun e w' => (∃ v, e = .returned v ∧ Made w w' v 8 xs) := by
  have HS := Lib.hid (fun a W => sku_any a W)
  have HC := Lib.hid (fun a W => category_any a W)
  have HP := Lib.hid (fun s W h => pick_any s W h)
  have HM := Lib.hid (fun a W => mod64_any a 4000 W (by omega) (by omega))
  have HR := Lib.hid h
  have hM0 : Made w w (.slice none 0 0) 0 xs := ⟨Own.nil _ _ _ _ _, Below.refl _ _⟩
  have HM0 := Lib.hid hM0
  clear h hM0
  go_enter Tryz.func27, Tryz.ntmps27
  go_wp2
  go_loopw [3, 4] (fun s3 s4 wr => ∃ k : Nat, s4 = .int .i64 k ∧ k ≤ 8 ∧ Hid (Made w wr s3 k xs)) (fun _ s4 _ => 8 - (intOf s4).toNat)
  case atStart => exact ⟨0, rfl, by omega, HM0⟩
  case round =>
    clear HM0
    obtain ⟨k, rfl, hk, hM⟩ := hrel
    have k0 : (0 : Int) ≤ (k : Int) := by omega
    by_cases hlt : k < 8
    · have k1 : (k : Int) < 8 := by omega
      have hs := HS.out (k : Int) wr
      have hc := fun W => HC.out (k : Int) W
      have e1 : modN (k : Int) 8 = k := modN_num k 8 hlt (by omega)
      have e2 : modN (k : Int) 3 = k % 3 := mod3 k hlt
      rw [e1] at hs
      simp only [e2] at hc
      have HS1 := Lib.hid hs
      have HC1 := Lib.hid hc
      clear hs hc e1 e2
      go_wp2_with fail
      refine HS1.out.mono ?_
      rintro e w1 ⟨rfl, hb1⟩
      have HB1 := Lib.hid hb1
      clear hb1
      go_wp2_with fail
      refine (HC1.out _).mono ?_
      rintro e w2 ⟨rfl, hb2⟩
      have HB2 := Lib.hid (Hk.andThen HB1.out hb2)
      clear hb2
      go_upto_if 21 with (fail)
      obtain ⟨W0, hW0⟩ : ∃ W0, w2.alloc (.cells #[.string (skuS k), .string (catS (k % 3)), .int .i64 (100 + 37 * (k : Int)), .bool false] 44) = W0 := ⟨_, rfl⟩
      have HW0 : Hid (Qu.Blk W0 w2.heap.size 44 #[.string (skuS k), .string (catS (k % 3)), .int .i64 (100 + 37 * (k : Int)), .bool false] ∧ Below wr.heap.size wr W0 ∧ wr.heap.size ≤ w2.heap.size) := Lib.hid (by
        rw [← hW0]
        exact ⟨Qu.Blk.new w2 _ _, HB2.out.alloc HB2.out.size _, HB2.out.size⟩)
      rw [hW0]
      clear hW0
      obtain ⟨bx, hbx⟩ : ∃ bx, w2.heap.size = bx := ⟨_, rfl⟩
      rw [hbx] at HW0
      simp only [hbx]
      clear hbx HB2
      go_cut [] (fun wx => Hid (Qu.Blk wx bx 44 (itemAt xs k).enc.toArray ∧ Below wr.heap.size wr wx))
      case first =>
        by_cases hkn : k < n
        · have n1 : decide (k < n) = true := decide_eq_true hkn
          have n2 : (k : Int) < (n : Int) := by omega
          obtain ⟨x, hx⟩ := HR.out.get hkn
          have hIA := itemAt_some hx
          obtain ⟨g, o, rfl, hg1, hg2, hok, a0, a1, a2, a3⟩ := row_item HR.out hx
          have hWH : Box0 W0 W0 bx (skuS k) := ⟨⟨Below.refl _ _, _, HW0.out.1, rfl⟩, by rw [HW0.out.1.cell]; rfl⟩
          have hlow : w.heap.size ≤ bx := Nat.le_trans hM.out.below.size HW0.out.2.2
          have hcell : ∀ u, Kd.Held W0 u bx 44 4 → ∀ i v, w.cell? ⟨g, i, none⟩ = some v → u.cell? ⟨g, i, none⟩ = some v := fun u hu i v hv => by
            have h1 := (hM.out.below.trans (HW0.out.2.1.mono hM.out.below.size)).cell (p := ⟨g, i, none⟩) hg2
            exact (hu.below.cell (p := ⟨g, i, none⟩) (show g < bx by omega)).trans (h1.trans hv)
          have c1 : ∀ u, Box0 W0 u bx (skuS k) → u.cell? ⟨g, o + k * 4 + 1, none⟩ = some (.string x.cat) := fun u hu => hcell u hu.held _ _ a1
          have c2 : ∀ u, Box0 W0 u bx (skuS k) → u.cell? ⟨g, o + k * 4 + 2, none⟩ = some (.int .i64 x.price) := fun u hu => hcell u hu.held _ _ a2
          have c3 : ∀ u, Box0 W0 u bx (skuS k) → u.cell? ⟨g, o + k * 4 + 3, none⟩ = some (.bool x.fin) := fun u hu => hcell u hu.held _ _ a3
          have b1 : ∀ u, Box0 W0 u bx (skuS k) → u.cell? ⟨bx, 1, none⟩ = some (Kd.lies u ⟨bx, 1, none⟩) := fun u hu => hu.held.lies (by omega)
          have b2 : ∀ u, Box0 W0 u bx (skuS k) → u.cell? ⟨bx, 2, none⟩ = some (Kd.lies u ⟨bx, 2, none⟩) := fun u hu => hu.held.lies (by omega)
          have b3 : ∀ u, Box0 W0 u bx (skuS k) → u.cell? ⟨bx, 3, none⟩ = some (Kd.lies u ⟨bx, 3, none⟩) := fun u hu => hu.held.lies (by omega)
          have bz : ∀ u i, Box0 W0 u bx (skuS k) → u.frozen? ⟨bx, i, none⟩ = false := fun u i hu => hu.held.frozen i
          have HPx := Lib.hid (fun W => HP.out x.cat W hok.cat)
          have HCx := Lib.hid (fun W => HC.out (pickS x.cat) W)
          have HMx := Lib.hid (fun W => HM.out x.price W)
          have HIA := Lib.hid hIA
          obtain ⟨cs, hcs⟩ : ∃ cs, catS (modN (pickS x.cat) 3) = cs := ⟨_, rfl⟩
          obtain ⟨pr, hpr⟩ : ∃ pr, (modN x.price 4000 : Int) = pr := ⟨_, rfl⟩
          simp only [hcs] at HCx HIA
          simp only [hpr] at HMx HIA
          clear a0 a1 a2 a3 hx hok hg1 hcs hpr hIA hcell
          cases hfin : x.fin with
          | false =>
            simp only [hfin] at c3 HIA
            go_wp2_with fail
            refine wp_region_held_drew (S := fun u => Box0 W0 u bx (skuS k)) (by kernel_rfl) (hWH.drew) (fun hS0 => ?_)
            refine pkT 0 22 hS0 ?_
            try simp only [Act.put, pkA, pkB, pkC]
            refine pkT 1 23 hS0 ?_
            try simp only [Act.put, pkA, pkB, pkC]
            refine pkT 2 24 hS0 ?_
            try simp only [Act.put, pkA, pkB, pkC]
            refine pkT 3 25 hS0 ?_
            try simp only [Act.put, pkA, pkB, pkC]
            refine pkT 4 26 hS0 ?_
            try simp only [Act.put, pkA, pkB, pkC]
            refine pkT 7 29 hS0 ?_
            try simp only [Act.put, pkA, pkB, pkC]
            refine pkT 8 30 hS0 ?_
            try simp only [Act.put, pkA, pkB, pkC]
            refine pkT 9 31 hS0 ?_
            try simp only [Act.put, pkA, pkB, pkC]
            refine pkT 10 32 hS0 ?_
            try simp only [Act.put, pkA, pkB, pkC]
            refine pkT 11 33 hS0 ?_
            try simp only [Act.put, pkA, pkB, pkC]
            refine pkT 13 35 hS0 ?_
            try simp only [Act.put, pkA, pkB, pkC]
            refine pkT 14 36 hS0 ?_
            try simp only [Act.put, pkA, pkB, pkC]
            refine pkT 15 37 hS0 ?_
            try simp only [Act.put, pkA, pkB, pkC]
            refine pkT 16 38 hS0 ?_
            try simp only [Act.put, pkA, pkB, pkC]
            refine pkT 17 39 hS0 ?_
            try simp only [Act.put, pkA, pkB, pkC]
            refine wpAnyH_ready (rs := [5]) (by kernel_rfl) (by simp) ?_
            refine AllReadyH.cons (o := ⟨some 27, _, _, _, _, _⟩) rfl (fun K hK => ?_) AllReadyH.nil
            go_simp
            refine (HPx.out _).mono ?_
            rintro e wp ⟨rfl, rfl⟩
            go_wp2_with fail
            refine hK.out _ _ (hS0) (fun hS1 => ?_)
            clear hK K
            try simp only [Act.put, pkA, pkB, pkC]
            refine wpAnyH_ready (rs := [6]) (by kernel_rfl) (by simp) ?_
            refine AllReadyH.cons (o := ⟨some 28, _, _, _, _, _⟩) rfl (fun K hK => ?_) AllReadyH.nil
            go_simp
            refine (HCx.out _).mono ?_
            rintro e wc ⟨rfl, hc⟩
            go_wp2_with fail
            refine hK.out _ _ (hS1.on hc) (fun hS2 => ?_)
            clear hK K
            try simp only [Act.put, pkA, pkB, pkC]
            refine pkT 22 44 hS2 ?_
            try simp only [Act.put, pkA, pkB, pkC]
            refine wpAnyH_ready (rs := [12]) (by kernel_rfl) (by simp) ?_
            refine AllReadyH.cons (o := ⟨some 34, _, _, _, _, _⟩) rfl (fun K hK => ?_) AllReadyH.nil
            go_simp
            refine (HMx.out _).mono ?_
            rintro e wm ⟨rfl, rfl⟩
            go_wp2_with fail
            refine hK.out _ _ (hS2) (fun hS3 => ?_)
            clear hK K
            try simp only [Act.put, pkA, pkB, pkC]
            refine pkT 18 40 hS3 ?_
            try simp only [Act.put, pkA, pkB, pkC]
            refine pkU 19 41 hS3 ?_
            try simp only [Act.put, pkA, pkB, pkC]
            refine pkU 20 42 hS3 ?_
            try simp only [Act.put, pkA, pkB, pkC]
            refine pkT 21 43 hS3 ?_
            try simp only [Act.put, pkA, pkB, pkC]
            refine wpAnyH_ready (rs := [23]) (by kernel_rfl) (by simp) ?_
            refine AllReadyH.cons (o := ⟨none, _, _, _, _, _⟩) rfl (fun K hK => ?_) AllReadyH.nil
            go_simp
            refine hK.out _ _ (hS3.put 1 _ (by omega)) (fun hS4 => ?_)
            clear hK K
            try simp only [Act.put, pkA, pkB, pkC]
            refine pkT 24 45 hS4 ?_
            try simp only [Act.put, pkA, pkB, pkC]
            refine wpAnyH_ready (rs := [25]) (by kernel_rfl) (by simp) ?_
            refine AllReadyH.cons (o := ⟨none, _, _, _, _, _⟩) rfl (fun K hK => ?_) AllReadyH.nil
            go_simp
            refine hK.out _ _ (hS4.put 2 _ (by omega)) (fun hS5 => ?_)
            clear hK K
            try simp only [Act.put, pkA, pkB, pkC]
            refine pkT 26 46 hS5 ?_
            try simp only [Act.put, pkA, pkB, pkC]
            refine wpAnyH_ready (rs := [27]) (by kernel_rfl) (by simp) ?_
            refine AllReadyH.cons (o := ⟨none, _, _, _, _, _⟩) rfl (fun K hK => ?_) AllReadyH.nil
            go_simp
            refine hK.out _ _ (hS5.put 3 _ (by omega)) (fun hS6 => ?_)
            clear hK K
            try simp only [Act.put, pkA, pkB, pkC]
            refine wpAnyH_done (by kernel_rfl) ?_ _
            go_wp2_with fail
            go_meet
            exact Lib.hid (by rw [HIA.out]; exact ⟨box0_done hS3 cs pr false, HW0.out.2.1.trans (hS6.held.below.mono HW0.out.2.2)⟩)
          | true =>
            simp only [hfin] at c3 HIA
            obtain ⟨b7, hb7⟩ : ∃ b7, (k == 7) = b7 := ⟨_, rfl⟩
            have hb8 : ((k : Int) == 7) = b7 := by rw [← hb7]; exact seven k
            rw [hb7, Bool.true_and] at HIA
            clear hb7
            go_wp2_with fail
            refine wp_region_held_drew (S := fun u => Box0 W0 u bx (skuS k)) (by kernel_rfl) (hWH.drew) (fun hS0 => ?_)
            refine pkT 0 22 hS0 ?_
            try simp only [Act.put, pkA, pkB, pkC]
            refine pkT 1 23 hS0 ?_
            try simp only [Act.put, pkA, pkB, pkC]
            refine pkT 2 24 hS0 ?_
            try simp only [Act.put, pkA, pkB, pkC]
            refine pkT 3 25 hS0 ?_
            try simp only [Act.put, pkA, pkB, pkC]
            refine pkT 4 26 hS0 ?_
            try simp only [Act.put, pkA, pkB, pkC]
            refine pkT 7 29 hS0 ?_
            try simp only [Act.put, pkA, pkB, pkC]
            refine pkT 8 30 hS0 ?_
            try simp only [Act.put, pkA, pkB, pkC]
            refine pkT 9 31 hS0 ?_
            try simp only [Act.put, pkA, pkB, pkC]
            refine pkT 10 32 hS0 ?_
            try simp only [Act.put, pkA, pkB, pkC]
            refine pkT 11 33 hS0 ?_
            try simp only [Act.put, pkA, pkB, pkC]
            refine pkT 13 35 hS0 ?_
            try simp only [Act.put, pkA, pkB, pkC]
            refine pkT 14 36 hS0 ?_
            try simp only [Act.put, pkA, pkB, pkC]
            refine pkT 15 37 hS0 ?_
            try simp only [Act.put, pkA, pkB, pkC]
            refine pkT 16 38 hS0 ?_
            try simp only [Act.put, pkA, pkB, pkC]
            refine pkT 17 39 hS0 ?_
            try simp only [Act.put, pkA, pkB, pkC]
            refine wpAnyH_ready (rs := [5]) (by kernel_rfl) (by simp) ?_
            refine AllReadyH.cons (o := ⟨some 27, _, _, _, _, _⟩) rfl (fun K hK => ?_) AllReadyH.nil
            go_simp
            refine (HPx.out _).mono ?_
            rintro e wp ⟨rfl, rfl⟩
            go_wp2_with fail
            refine hK.out _ _ (hS0) (fun hS1 => ?_)
            clear hK K
            try simp only [Act.put, pkA, pkB, pkC]
            refine wpAnyH_ready (rs := [6]) (by kernel_rfl) (by simp) ?_
            refine AllReadyH.cons (o := ⟨some 28, _, _, _, _, _⟩) rfl (fun K hK => ?_) AllReadyH.nil
            go_simp
            refine (HCx.out _).mono ?_
            rintro e wc ⟨rfl, hc⟩
            go_wp2_with fail
            refine hK.out _ _ (hS1.on hc) (fun hS2 => ?_)
            clear hK K
            try simp only [Act.put, pkA, pkB, pkC]
            refine pkT 22 44 hS2 ?_
            try simp only [Act.put, pkA, pkB, pkC]
            refine wpAnyH_ready (rs := [12]) (by kernel_rfl) (by simp) ?_
            refine AllReadyH.cons (o := ⟨some 34, _, _, _, _, _⟩) rfl (fun K hK => ?_) AllReadyH.nil
            go_simp
            refine (HMx.out _).mono ?_
            rintro e wm ⟨rfl, rfl⟩
            go_wp2_with fail
            refine hK.out _ _ (hS2) (fun hS3 => ?_)
            clear hK K
            try simp only [Act.put, pkA, pkB, pkC]
            refine pkT 18 40 hS3 ?_
            try simp only [Act.put, pkA, pkB, pkC]
            refine pkT 19 41 hS3 ?_
            try simp only [Act.put, pkA, pkB, pkC]
            refine pkT 20 42 hS3 ?_
            try simp only [Act.put, pkA, pkB, pkC]
            refine pkT 21 43 hS3 ?_
            try simp only [Act.put, pkA, pkB, pkC]
            refine wpAnyH_ready (rs := [23]) (by kernel_rfl) (by simp) ?_
            refine AllReadyH.cons (o := ⟨none, _, _, _, _, _⟩) rfl (fun K hK => ?_) AllReadyH.nil
            go_simp
            refine hK.out _ _ (hS3.put 1 _ (by omega)) (fun hS4 => ?_)
            clear hK K
            try simp only [Act.put, pkA, pkB, pkC]
            refine pkT 24 45 hS4 ?_
            try simp only [Act.put, pkA, pkB, pkC]
            refine wpAnyH_ready (rs := [25]) (by kernel_rfl) (by simp) ?_
            refine AllReadyH.cons (o := ⟨none, _, _, _, _, _⟩) rfl (fun K hK => ?_) AllReadyH.nil
            go_simp
            refine hK.out _ _ (hS4.put 2 _ (by omega)) (fun hS5 => ?_)
            clear hK K
            try simp only [Act.put, pkA, pkB, pkC]
            refine pkT 26 46 hS5 ?_
            try simp only [Act.put, pkA, pkB, pkC]
            refine wpAnyH_ready (rs := [27]) (by kernel_rfl) (by simp) ?_
            refine AllReadyH.cons (o := ⟨none, _, _, _, _, _⟩) rfl (fun K hK => ?_) AllReadyH.nil
            go_simp
            refine hK.out _ _ (hS5.put 3 _ (by omega)) (fun hS6 => ?_)
            clear hK K
            try simp only [Act.put, pkA, pkB, pkC]
            refine wpAnyH_done (by kernel_rfl) ?_ _
            go_wp2_with fail
            go_meet
            exact Lib.hid (by rw [HIA.out]; exact ⟨box0_done hS3 cs pr b7, HW0.out.2.1.trans (hS6.held.below.mono HW0.out.2.2)⟩)
        · have n1 : decide (k < n) = false := decide_eq_false hkn
          have hno : xs[k]? = none := List.getElem?_eq_none (by rw [HR.out.len]; omega)
          have HO : Hid (Qu.Blk W0 bx 44 (itemAt xs k).enc.toArray ∧ Below wr.heap.size wr W0) := Lib.hid (by
            rw [itemAt_none hno]
            exact ⟨HW0.out.1, HW0.out.2.1⟩)
          clear hno
          go_wp2
          go_meet
          exact HO
      case rest =>
        obtain ⟨x, hx⟩ : ∃ x, itemAt xs k = x := ⟨_, rfl⟩
        have hok := item_okay xs hlt
        have hget := itemsOf_get xs hlt
        rw [hx] at hcut hok hget
        have b0 := hcut.out.1.cell 0
        have b1 := hcut.out.1.cell 1
        have b2 := hcut.out.1.cell 2
        have b3 := hcut.out.1.cell 3
        simp [Itm.enc] at b0 b1 b2 b3
        obtain ⟨v, hv⟩ : ∃ v, u3 = v := ⟨_, rfl⟩
        have HOW : Hid (Own kItem wc w.heap.size 44 (fun _ => False) u3 k ((itemsOf xs).take k) ∧ Below w.heap.size w wc ∧ w.heap.size ≤ wc.heap.size ∧ kItem.rep wc (fun _ => False) x x.enc) := Lib.hid (by
          have hb := hM.out.below.trans (hcut.out.2.mono hM.out.below.size)
          refine ⟨hM.out.own.stay (fun _ h => h.elim) (fun g hg => ?_), hb, hb.size, item_rep.2 ⟨rfl, hok⟩⟩
          obtain ⟨_, cs, ho, _⟩ := hM.out.own
          exact hcut.out.2.block g (ho.lt g hg).2)
        have HT : Hid ((itemsOf xs).take (k + 1) = (itemsOf xs).take k ++ [x]) := Lib.hid (take_more hget)
        have k48 : (k + 1) * 48 ≤ 140737488355328 := by omega
        clear hcut HW0 HB1 hM hok hget hx hv
        go_wp2_with ((at_builtin; refine Kd.wpList_push (W := wc) (F := fun _ => False) (B := w.heap.size) (n := k) (v := u3) (xs := (itemsOf xs).take k) (y := x) (cs := x.enc) row_item_t rfl _ _ rfl rfl rfl rfl HOW.out.1 HOW.out.2.2.2 k48 (by omega) HOW.out.2.2.1 (fun _ h => h.elim) ?_; intro g cap w' hown hgrow hfr))
        have HM2 : Hid (Made w w' (.slice (some ⟨g, 0, none⟩) (k + 1) cap) (k + 1) xs) := Lib.hid ⟨by rw [HT.out]; exact hown, HOW.out.2.1.grown hgrow HOW.out.2.2.1 (fun j hj => by
          obtain ⟨_, cs, ho, _⟩ := HOW.out.1
          exact (ho.lt j hj).1)⟩
        clear hown hgrow hfr
        go_wp2
        go_roundw
        case rel => exact ⟨k + 1, by go_num, by omega, HM2⟩
        case measure => simp [intOf]; omega
    · have k1 : ¬ (k : Int) < 8 := by omega
      obtain rfl : k = 8 := by omega
      have HO := Lib.hid hM.out
      clear hM
      go_wp2
      go_ret
      exact ⟨_, rfl, HO.out⟩
end Go.Proofs.YtfcmhgneijipgaaGreat.Py
