/- P10.1: a right list with one thing turned; for every slice of items, two ints, string and int64. No conditions. -/
import Derived.Test.YtabfnkjdfninhaaGdL
import Derived.Test.YtabfnkjdfninhaaPyI
import Derived.Test.YtabfnkjdfninhaaBa
set_option maxRecDepth 100000
namespace Go.Proofs.Ytabfnkjdfninhaa.goodsTurned
open Go.ChangeShapes Go.WideShapes Go.ChangeAt Go.RowKit
open It (Itm kItem row_item row_ok item_rep)
open Kd (Kind Row Own Cells Fit Agree)
set_option linter.unusedVariables false

theorem own : ownKnob Try.prog.godebug = none := by kernel_rfl

theorem bad_append (xs : List Itm) {k : Nat} (h : k < 8) : Gd.goodB (Py.itemsOf xs ++ [Py.itemAt xs k]) = false := Gd.goodB_no fun g => by
  have h7 := Py.itemsOf_get xs (show 7 < 8 by omega)
  have hl := Py.itemsOf_length xs
  have h1 := g.rise 7 _ _ (by rw [List.getElem?_append_left (by omega)]; exact h7) (by rw [List.getElem?_append_right (by omega), hl]; rfl)
  rw [Py.itemAt_sku, Py.itemAt_sku] at h1
  rcases Nat.lt_or_ge k 7 with h2 | h2
  · have h3 : Sr.lt (Py.skuS k) (Py.skuS 7) = true := Py.chr_lt (by omega) (by omega)
    rw [Sr.lt_asymm h3] at h1
    cases h1
  · obtain rfl : k = 7 := by omega
    rw [Sr.lt_irrefl] at h1
    cases h1

/-- Two that have changed places. -/
def swapL (xs : List Itm) (k : Nat) : List Itm := ((Py.itemsOf xs).set k (Py.itemAt xs 0)).set 0 (Py.itemAt xs k)

theorem swap_good (xs : List Itm) {k : Nat} (h : k < 8) : Gd.goodB (swapL xs k) = decide (k = 0) := by
  have hl := Py.itemsOf_length xs
  by_cases hk : k = 0
  · subst hk
    rw [decide_eq_true rfl]
    have e : swapL xs 0 = Py.itemsOf xs := by
      unfold swapL
      rw [List.set_set]
      apply List.ext_getElem?
      intro j
      rw [List.getElem?_set]
      split
      · rename_i e0
        subst e0
        rw [if_pos (by omega), Py.itemsOf_get xs (by omega)]
      · rfl
    rw [e]
    exact Gd.goodB_yes (Py.items_good xs)
  · rw [decide_eq_false hk]
    refine Gd.goodB_no fun g => ?_
    have h1 := g.rise.below (i := 0) (j := k) (x := Py.itemAt xs k) (y := Py.itemAt xs 0) (by omega) (by unfold swapL; rw [List.getElem?_set_self (by rw [List.length_set, hl]; omega)]) (by unfold swapL; rw [List.getElem?_set_ne (by omega), List.getElem?_set_self (by omega)])
    rw [Py.itemAt_sku, Py.itemAt_sku] at h1
    have h3 : Sr.lt (Py.skuS 0) (Py.skuS k) = true := Py.chr_lt (by omega) (by omega)
    rw [Sr.lt_asymm h3] at h1
    cases h1

/-- The list behind the turn. -/
structure Turned (w wx : World) (v : Value) (h k : Nat) : Prop where
  own : ∃ A n c zs, v = .slice A n c ∧ Own kItem wx w.heap.size 32 (fun _ => False) (.slice A n c) n zs ∧ n ≤ 9 ∧ (h = 3 → Gd.goodB zs = false) ∧ (h = 4 → Gd.goodB zs = decide (k = 0))
  below : Below w.heap.size w wx

set_option maxHeartbeats 2000000 in
theorem walk (w : World) (A : Option Addr) (n c : Nat) (xs : List Itm) (hrow : Row kItem w (· < w.heap.size) A n xs) (hfit : Fit A n c) (at_ : Int) (hat : (Lit.int .i64 at_).wf = true) (how : Int) (hhow : (Lit.int .i64 how).wf = true) (s : ByteArray) (hs : s.size ≤ maxLen) (price : Int) (hp : (Lit.int .i64 price).wf = true) :
    Calls Try.prog 5 #[.slice A n c, .int .i64 at_, .int .i64 how, .string s, .int .i64 price] w fun e w' => e = .returned (.bool true) ∧ Below w.heap.size w w' := by
  obtain ⟨_, hfc, hfx⟩ := hfit
  have hpb := bounds_i64 hp
  obtain ⟨m, hm⟩ : ∃ m, min n 8 = m := ⟨_, rfl⟩
  have hmn : m ≤ n := by omega
  have hm8 : m ≤ 8 := by omega
  have hmin1 : (if (n : Int) < 8 then (n : Int) else 8) = (m : Int) := by split <;> omega
  have hmin2 : (if (8 : Int) < (n : Int) then 8 else (n : Int)) = (m : Int) := by split <;> omega
  have hS := fun W => Gd.item_to A n c m (by omega) W
  obtain ⟨ys, hys⟩ : ∃ ys, xs.take m = ys := ⟨_, rfl⟩
  have hI := Py.items_any A m c (xs.take m) w (hrow.take hmn) (by omega)
  rw [hys] at hI
  have HI := Lib.hid hI
  obtain ⟨k, hk⟩ : ∃ k, Py.modN at_ 8 = k := ⟨_, rfl⟩
  have hk8 := Py.modN_lt at_ 8 (by omega)
  have HM := Lib.hid (fun W => Py.mod_any at_ 8 W (by omega) (by omega))
  rw [hk] at hk8
  simp only [hk] at HM
  obtain ⟨t, ht⟩ : ∃ t, Py.modN how 5 = t := ⟨_, rfl⟩
  have ht5 := Py.modN_lt how 5 (by omega)
  have HH := Lib.hid (fun W => Py.mod_any how 5 W (by omega) (by omega))
  rw [ht] at ht5
  simp only [ht] at HH
  clear hk hat hI hys hrow hm ht hhow hp
  go_enter Try.func5, Try.ntmps5
  go_wp2_with fail
  refine HI.out.mono ?_
  rintro e w1 ⟨v, rfl, hm⟩
  obtain ⟨A1, c1, rfl⟩ := hm.own.value
  have h8 : (Py.itemsOf ys).take 8 = Py.itemsOf ys := List.take_of_length_le (by rw [Py.itemsOf_length]; omega)
  have h1 := hm.own
  rw [h8] at h1
  have HOW := Lib.hid (And.intro h1 hm.below)
  obtain ⟨g, rfl, hg1, hg2⟩ := h1.first (by omega)
  have k0 : (0 : Int) ≤ (k : Int) := by omega
  clear h1 h8 hm HI hS hmin1 hmin2
  go_wp2_with fail
  refine (HM.out _).mono ?_
  rintro e w2 ⟨rfl, rfl⟩
  go_wp2_with fail
  refine (HH.out _).mono ?_
  rintro e w3 ⟨rfl, rfl⟩
  go_upto_block 0 with (fail)
  go_cut [0] (fun s0 wx => Hid (Turned w wx s0 t k))
  case first =>
    obtain h | h | h | h | h : t = 0 ∨ t = 1 ∨ t = 2 ∨ t = 3 ∨ t = 4 := by omega
    ·
      have b0 : ((t : Int) == 0) = true := by rw [h]; rfl
      have hc := HOW.out.1.cell (k := k) (j := 0) (by omega) (by decide)
      obtain ⟨⟨u, hu⟩, hz⟩ := hc
      have u1 : w3.cell? ⟨g, k * 4, none⟩ = some u := hu
      have u2 : w3.frozen? ⟨g, k * 4, none⟩ = false := hz
      have HT : Hid (Turned w (w3.setCell ⟨g, k * 4, none⟩ (.string s)) (.slice (some ⟨g, 0, none⟩) 8 c1) t k) := Lib.hid (by
        have hok := Py.item_okay ys (show k < 8 by omega)
        have h1 := Own.put (k := k) (j := 0) (x := Py.itemAt ys k) (x' := { Py.itemAt ys k with sku := s }) (a := (Py.itemAt ys k).enc) (u := .string s) HOW.out.1 (Py.itemsOf_get ys (by omega)) (fun h => (item_rep.1 h).1) (by decide) (item_rep.2 ⟨rfl, { hok with sku := hs }⟩) (fun _ h => h.elim)
        exact ⟨⟨_, _, _, _, rfl, h1.1, by omega, fun e => by omega, fun e => by omega⟩, HOW.out.2.setCell hg1 _⟩)
      clear hu hz h
      go_wp2_with fail
      go_meet
      exact HT
    ·
      have b0 : ((t : Int) == 0) = false := by rw [h]; rfl
      have b1 : ((t : Int) == 1) = true := by rw [h]; rfl
      have hc := HOW.out.1.cell (k := k) (j := 1) (by omega) (by decide)
      obtain ⟨⟨u, hu⟩, hz⟩ := hc
      have u1 : w3.cell? ⟨g, k * 4 + 1, none⟩ = some u := hu
      have u2 : w3.frozen? ⟨g, k * 4 + 1, none⟩ = false := hz
      have HT : Hid (Turned w (w3.setCell ⟨g, k * 4 + 1, none⟩ (.string s)) (.slice (some ⟨g, 0, none⟩) 8 c1) t k) := Lib.hid (by
        have hok := Py.item_okay ys (show k < 8 by omega)
        have h1 := Own.put (k := k) (j := 1) (x := Py.itemAt ys k) (x' := { Py.itemAt ys k with cat := s }) (a := (Py.itemAt ys k).enc) (u := .string s) HOW.out.1 (Py.itemsOf_get ys (by omega)) (fun h => (item_rep.1 h).1) (by decide) (item_rep.2 ⟨rfl, { hok with cat := hs }⟩) (fun _ h => h.elim)
        exact ⟨⟨_, _, _, _, rfl, h1.1, by omega, fun e => by omega, fun e => by omega⟩, HOW.out.2.setCell hg1 _⟩)
      clear hu hz h
      go_wp2_with fail
      go_meet
      exact HT
    ·
      have b0 : ((t : Int) == 0) = false := by rw [h]; rfl
      have b1 : ((t : Int) == 1) = false := by rw [h]; rfl
      have b2 : ((t : Int) == 2) = true := by rw [h]; rfl
      have hc := HOW.out.1.cell (k := k) (j := 2) (by omega) (by decide)
      obtain ⟨⟨u, hu⟩, hz⟩ := hc
      have u1 : w3.cell? ⟨g, k * 4 + 2, none⟩ = some u := hu
      have u2 : w3.frozen? ⟨g, k * 4 + 2, none⟩ = false := hz
      have HT : Hid (Turned w (w3.setCell ⟨g, k * 4 + 2, none⟩ (.int .i64 price)) (.slice (some ⟨g, 0, none⟩) 8 c1) t k) := Lib.hid (by
        have hok := Py.item_okay ys (show k < 8 by omega)
        have h1 := Own.put (k := k) (j := 2) (x := Py.itemAt ys k) (x' := { Py.itemAt ys k with price := price }) (a := (Py.itemAt ys k).enc) (u := .int .i64 price) HOW.out.1 (Py.itemsOf_get ys (by omega)) (fun h => (item_rep.1 h).1) (by decide) (item_rep.2 ⟨rfl, { hok with low := hpb.1, top := hpb.2 }⟩) (fun _ h => h.elim)
        exact ⟨⟨_, _, _, _, rfl, h1.1, by omega, fun e => by omega, fun e => by omega⟩, HOW.out.2.setCell hg1 _⟩)
      clear hu hz h
      go_wp2_with fail
      go_meet
      exact HT
    ·
      have b0 : ((t : Int) == 0) = false := by rw [h]; rfl
      have b1 : ((t : Int) == 1) = false := by rw [h]; rfl
      have b2 : ((t : Int) == 2) = false := by rw [h]; rfl
      have b3 : ((t : Int) == 3) = true := by rw [h]; rfl
      have hk9 : k < 8 := by omega
      have hrow := HOW.out.1.read
      obtain ⟨gg, oo, hA, _, _, _, a0, a1, a2, a3⟩ := row_item hrow (Py.itemsOf_get ys hk9)
      injection hA with hA
      injection hA with hA1 hA2
      subst hA1 hA2
      simp only [Nat.zero_add] at a0 a1 a2 a3
      have HOI : Hid (kItem.rep w3 (fun _ => False) (Py.itemAt ys k) (Py.itemAt ys k).enc) := Lib.hid (item_rep.2 ⟨rfl, Py.item_okay ys hk9⟩)
      have HBA := Lib.hid (bad_append ys hk9)
      have HH3 := Lib.hid h
      clear hrow h hk9
      go_upto_region 13 with ((at_builtin; refine Kd.wpList_push (W := w3) (F := fun _ => False) (B := w.heap.size) (n := 8) (v := .slice (some ⟨g, 0, none⟩) 8 c1) (xs := Py.itemsOf ys) (y := Py.itemAt ys k) (cs := (Py.itemAt ys k).enc) Py.row_item_t rfl _ _ rfl rfl rfl rfl HOW.out.1 HOI.out (by omega) (by omega) HOW.out.2.size (fun _ h => h.elim) ?_; intro g' cap w' hown hgrow hfr))
      have HT : Hid (Turned w w' (.slice (some ⟨g', 0, none⟩) 9 cap) t k) := Lib.hid ⟨⟨_, _, _, _, rfl, hown, by omega, fun _ => HBA.out, fun e => by have := HH3.out; omega⟩, HOW.out.2.grown hgrow HOW.out.2.size (fun j hj => (HOW.out.1.low j hj).1)⟩
      clear hown hgrow hfr
      go_meet
      exact HT
    ·
      have b0 : ((t : Int) == 0) = false := by rw [h]; rfl
      have b1 : ((t : Int) == 1) = false := by rw [h]; rfl
      have b2 : ((t : Int) == 2) = false := by rw [h]; rfl
      have b3 : ((t : Int) == 3) = false := by rw [h]; rfl
      have hk9 : k < 8 := by omega
      have hrow := HOW.out.1.read
      obtain ⟨gg, oo, hA, _, _, _, a0, a1, a2, a3⟩ := row_item hrow (Py.itemsOf_get ys hk9)
      injection hA with hA
      injection hA with hA1 hA2
      subst hA1 hA2
      obtain ⟨gg, oo, hA, _, _, _, d0, d1, d2, d3⟩ := row_item hrow (Py.itemsOf_get ys (show 0 < 8 by omega))
      injection hA with hA
      injection hA with hA1 hA2
      subst hA1 hA2
      simp only [Nat.zero_add, Nat.zero_mul] at a0 a1 a2 a3 d0 d1 d2 d3
      have fz : ∀ i, w3.frozen? ⟨g, i, none⟩ = false := fun i => by
        obtain ⟨_, cs, ho, _⟩ := HOW.out.1
        exact ho.frozenAt i
      clear hrow
      have HSW : Hid (Turned w (((w3.setCells g (k * 4) (Py.itemAt ys 0).enc).setCells g 0 (Py.itemAt ys k).enc).drew) (.slice (some ⟨g, 0, none⟩) 8 c1) t k) := Lib.hid (by
        have h1 := Own.puts (k := k) (x' := Py.itemAt ys 0) (a' := (Py.itemAt ys 0).enc) HOW.out.1 (by omega) (item_rep.2 ⟨rfl, Py.item_okay ys (by omega)⟩) (fun _ h => h.elim)
        have h2 := Own.puts (k := 0) (x' := Py.itemAt ys k) (a' := (Py.itemAt ys k).enc) h1.1 (by omega) (item_rep.2 ⟨rfl, Py.item_okay ys hk9⟩) (fun _ h => h.elim)
        rw [Nat.zero_mul] at h2
        refine ⟨⟨_, _, _, _, rfl, h2.1.later (Below.refl _ _).drew, by omega, fun e => by omega, fun _ => swap_good ys hk9⟩, ?_⟩
        have hb1 : Below w.heap.size w (w3.setCells g (k * 4) (Py.itemAt ys 0).enc) := Kd.below_puts hg1 _ _ _ HOW.out.2
        exact (Kd.below_puts hg1 _ _ _ hb1).drew)
      clear h
      by_cases hk0 : k = 0
      · subst hk0
        go_wp2_with fail
        go_region
        go_wp2_with fail
        go_meet
        exact HSW
      · go_wp2_with fail
        go_region
        go_wp2_with fail
        go_meet
        exact HSW
  case rest =>
    obtain ⟨⟨A2, n2, c2, zs, rfl, hown, hn9, hz3, hz4⟩, hbw⟩ := hcut.out
    have HB := Lib.hid hbw
    have hR := Gd.right_any A2 n2 c2 zs (· < wc.heap.size) wc hown.read (fun b hb => hb) (by omega)
    have hRR := fun W (hW : Below wc.heap.size wc W) => Gd.rgoods_any A2 n2 c2 zs (· < wc.heap.size) W (hown.read.below hW (Nat.le_refl _)) (by omega)
    obtain ⟨b, hb⟩ : ∃ b, Gd.goodB zs = b := ⟨_, rfl⟩
    rw [hb] at hR
    simp only [hb] at hRR
    rw [hb] at hz3 hz4
    have HR := Lib.hid hR
    have HRR := Lib.hid hRR
    have e1 : (b == b) = true := by cases b <;> rfl
    have HZ := Lib.hid (And.intro hz3 hz4)
    clear hR hRR hb hown hbw hcut HOW hz3 hz4
    go_wp2_with fail
    refine HR.out.mono ?_
    rintro e w4 ⟨rfl, hb4⟩
    have HB4 := Lib.hid hb4
    clear hb4
    go_wp2_with fail
    refine (Gd.awake_any _).mono ?_
    rintro e w5 ⟨rfl, hb5⟩
    have HB5 := Lib.hid (Hk.andThen HB4.out hb5)
    clear hb5
    go_wp2_with fail
    refine (HRR.out _ HB5.out).mono ?_
    rintro e w6 ⟨rfl, hd6⟩
    have HB6 := Lib.hid (HB.out.trans ((HB5.out.trans (hd6.below _)).mono HB.out.size))
    clear hd6
    by_cases h3 : t = 3
    · have b3 : ((t : Int) != 3) = false := by rw [h3]; rfl
      have b4 : ((t : Int) != 4) = true := by rw [h3]; rfl
      have hbf := HZ.out.1 h3
      subst hbf
      clear h3
      go_wp2_with fail
      refine (HH.out _).mono ?_
      rintro e w7 ⟨rfl, rfl⟩
      go_wp2_with fail
      refine (HH.out _).mono ?_
      rintro e w8 ⟨rfl, rfl⟩
      go_wp2
      go_ret
      exact ⟨rfl, HB6.out⟩
    · have b3 : ((t : Int) != 3) = true := bne_iff_ne.2 (by omega)
      by_cases h4 : t = 4
      · have b4 : ((t : Int) != 4) = false := by rw [h4]; rfl
        have hbf := HZ.out.2 h4
        have b5 : ((k : Int) == 0) = b := by
          rw [hbf]
          by_cases e : k = 0
          · subst e; rfl
          · rw [decide_eq_false e]; exact beq_eq_false_iff_ne.2 (by omega)
        clear h3 h4 hbf
        go_wp2_with fail
        refine (HH.out _).mono ?_
        rintro e w7 ⟨rfl, rfl⟩
        go_wp2_with fail
        refine (HH.out _).mono ?_
        rintro e w8 ⟨rfl, rfl⟩
        go_wp2
        go_ret
        exact ⟨rfl, HB6.out⟩
      · have b4 : ((t : Int) != 4) = true := bne_iff_ne.2 (by omega)
        clear h3 h4
        go_wp2_with fail
        refine (HH.out _).mono ?_
        rintro e w7 ⟨rfl, rfl⟩
        go_wp2_with fail
        refine (HH.out _).mono ?_
        rintro e w8 ⟨rfl, rfl⟩
        go_wp2
        go_ret
        exact ⟨rfl, HB6.out⟩

set_option maxRecDepth 100000 in
theorem lifted (os : Os) (started : os.Started) (H : Type) (enc : TypeId × Value → H) :
    ReturnsInHanded {} Try.checked os 5 .any (Rows.goodsTurnedSpec.pre6 enc Try.prog Try.f5 Rows.goodsTurnedRow.domain false) (Rows.goodsTurnedSpec.post enc Try.prog Try.f5 false true false false) := by
  refine returnsInHanded_of_change (C := Try.checked) own started (by kernel_rfl) Try.func5
    (ChangeSpec.witness6 (enc := enc) (C := Try.checked) false ⟨#[], #[.slice none 0 0, .int .i64 0, .int .i64 0, .string ⟨#[]⟩, .int .i64 0], []⟩ 8 (by kernel_rfl) (by kernel_rfl) (by kernel_rfl) (by kernel_rfl)) ?_
  intro W base args ds gs before hval0 hW hcnd _
  have hval : ∀ (j : Nat) t v, Try.f5.params[j]? = some t → args[j]? = some v → Value.okWide Try.prog W .any base t v := hval0
  have hW' := hW
  obtain ⟨p, q, hA0, hV, rfl, hfz, hnd⟩ := hW
  have hA : DataW.TrodAll enc Try.prog W 0 (fun _ => true) true Try.f5.params.toList args.toList ds p := hA0
  rw [Try.params5] at hA hval
  obtain ⟨v0, vs0, d0, ds0, p0, q0, hargs, rfl, rfl, h0, r0⟩ := trodAll_cons hA
  obtain ⟨v1, vs1, d1, ds1, p1, q1, rfl, rfl, rfl, h1, r1⟩ := trodAll_cons r0
  obtain ⟨v2, vs2, d2, ds2, p2, q2, rfl, rfl, rfl, h2, r2⟩ := trodAll_cons r1
  obtain ⟨v3, vs3, d3, ds3, p3, q3, rfl, rfl, rfl, h3, r3⟩ := trodAll_cons r2
  obtain ⟨v4, vs4, d4, ds4, p4, q4, rfl, rfl, rfl, h4, r4⟩ := trodAll_cons r3
  obtain ⟨rfl, rfl, rfl⟩ := trodAll_nil r4
  obtain rfl : args = #[v0, v1, v2, v3, v4] := by cases args; simp_all
  obtain ⟨A0, n0, c0, xs0, rfl, x0, y0⟩ := Kd.open_list It.reads_item Try.underlying28 (by decide) (hval 0 28 v0 rfl rfl) h0
  obtain ⟨a1, rfl, _, _, w1⟩ := open_int Try.underlying3 (hval 1 3 v1 rfl rfl) h1
  obtain ⟨a2, rfl, _, _, w2⟩ := open_int Try.underlying3 (hval 2 3 v2 rfl rfl) h2
  obtain ⟨s3, rfl, _, _, u3⟩ := Go.ChangeMaps.open_string Try.underlying9 (hval 3 9 v3 rfl rfl) h3
  obtain ⟨a4, rfl, _, _, w4⟩ := open_int Try.underlying2 (hval 4 2 v4 rfl rfl) h4
  refine (walk W A0 n0 c0 xs0 x0 y0 a1 w1 a2 w2 s3 u3 a4 w4).mono fun e W' ⟨he, hb⟩ => ?_
  subst he
  exact ⟨_, rfl, Hk.closeLaw (tb := 4) (by kernel_rfl) (by kernel_rfl) rfl rfl rfl Try.underlying4 hW' hb⟩

theorem over : Rows.goodsTurnedRow.holds Try.pinned (OpenSpec.ofChange Rows.goodsTurnedSpec) :=
  OpenClaim.holds_of_wide 5 Try.f5 rfl rfl rfl rfl rfl rfl rfl ⟨rfl, rfl, rfl, rfl, rfl⟩ rfl rfl rfl rfl rfl (by kernel_rfl) Try.func5 (by kernel_rfl)
    (of_decide_eq_true (by kernel_rfl)) (by unfold Func.isWrapper; first | (rw [if_pos (by decide +kernel)]; kernel_rfl) | (rw [if_neg (by decide +kernel)]; exact ⟨rfl, rfl⟩))
    (fun os started H enc _ => lifted os started H enc)

/-- The statement. -/
theorem proved : Rows.GoodsTurnedSaid :=
  over
end Go.Proofs.Ytabfnkjdfninhaa.goodsTurned
