/- P10.1: so many items, and no more; prices up to the greatest; for every int and int64. No conditions. -/
import Derived.Test.YtabfnkjdfninhaaGdL
import Derived.Test.YtabfnkjdfninhaaPyI
import Derived.Test.YtabfnkjdfninhaaBa
set_option maxRecDepth 100000
namespace Go.Proofs.Ytabfnkjdfninhaa.goodsMany
open Go.ChangeShapes Go.WideShapes Go.ChangeAt Go.RowKit
open It (Itm kItem row_item row_ok item_rep)
open Kd (Kind Row Own Cells Fit Agree)
set_option linter.unusedVariables false

theorem own : ownKnob Try.prog.godebug = none := by kernel_rfl

def mS (i : Nat) : ByteArray := By.strOf [UInt8.ofNat (97 + i / 26), UInt8.ofNat (97 + i % 26)]

def mI (i : Nat) : Itm := ⟨mS i, ⟨#[120]⟩, 0, false⟩

def mL (n : Nat) : List Itm := (List.range n).map mI

theorem mL_length (n : Nat) : (mL n).length = n := by simp [mL]

theorem mL_succ (n : Nat) : mL (n + 1) = mL n ++ [mI n] := by simp [mL, List.range_succ]

theorem mL_get {n k : Nat} (h : k < n) : (mL n)[k]? = some (mI k) := by
  unfold mL
  rw [List.getElem?_map, List.getElem?_range h]
  rfl

theorem mL_at {n k : Nat} {x : Itm} (h : (mL n)[k]? = some x) : k < n ∧ x = mI k := by
  have hl := (List.getElem?_eq_some_iff.1 h).1
  rw [mL_length] at hl
  rw [mL_get hl] at h
  exact ⟨hl, by simpa using h.symm⟩

theorem mS_size (i : Nat) : (mS i).size = 2 := by unfold mS; rw [By.strOf_size]; rfl

theorem mI_ok (i : Nat) : (mI i).ok := ⟨by show (mS i).size ≤ _; rw [mS_size]; decide, by show (ByteArray.mk #[120]).size ≤ _; decide, by show (-9223372036854775808 : Int) ≤ 0; decide, by show (0 : Int) ≤ 9223372036854775807; decide⟩

theorem mS_name {i : Nat} (h : i < 600) : Sr.name (mS i) = true := by
  unfold Sr.name Sr.nameL mS
  rw [← ByteArray.toList_eq, By.strOf_list]
  have h1 : Sr.plain (((97 + i / 26 : Nat)) : Int) = true := by unfold Sr.plain; simp; omega
  have h2 : Sr.plain (((97 + i % 26 : Nat)) : Int) = true := by unfold Sr.plain; simp; omega
  have e1 : (UInt8.ofNat (97 + i / 26)).toNat = 97 + i / 26 := By.toNat_small (by omega)
  have e2 : (UInt8.ofNat (97 + i % 26)).toNat = 97 + i % 26 := By.toNat_small (by omega)
  simp only [List.all_cons, List.all_nil, List.length_cons, List.length_nil, e1, e2, h1, h2]
  rfl

theorem mS_lt {i : Nat} (h : i < 600) : Sr.lt (mS i) (mS (i + 1)) = true := by
  unfold Sr.lt mS
  rw [By.strOf_list, By.strOf_list]
  unfold Op.bytesLess Op.bytesLess Op.bytesLess
  simp only [Bool.or_eq_true, decide_eq_true_eq, Bool.and_eq_true, beq_iff_eq, UInt8.lt_iff_toNat_lt, ← UInt8.toNat_inj]
  rw [By.toNat_small (by omega), By.toNat_small (by omega), By.toNat_small (by omega), By.toNat_small (by omega)]
  omega

theorem one_name : Sr.name ⟨#[120]⟩ = true := by decide +kernel

theorem mI_fine {i : Nat} (h : i < 600) : Gd.itemB (mI i) = true := by
  have h1 : (mI i).sku = mS i := rfl
  have h2 : (mI i).cat = ⟨#[120]⟩ := rfl
  have h3 : (mI i).price = 0 := rfl
  unfold Gd.itemB
  rw [h1, h2, h3, mS_name h, one_name]
  rfl

theorem many_good {n : Nat} (h : n < 600) : Gd.goodB (mL n) = decide (n ≤ 500) := by
  by_cases h5 : n ≤ 500
  · rw [decide_eq_true h5]
    refine Gd.goodB_yes ⟨by rw [mL_length]; exact h5, fun i x y hx hy => ?_, fun i x hx => ?_⟩
    · obtain ⟨h1, rfl⟩ := mL_at hx
      obtain ⟨h2, rfl⟩ := mL_at hy
      exact mS_lt (by omega)
    · obtain ⟨h1, rfl⟩ := mL_at hx
      exact mI_fine (by omega)
  · rw [decide_eq_false h5]
    exact Gd.goodB_no fun g => by
      have := g.few
      rw [mL_length] at this
      omega

/-- Three items, the one between with a price. -/
def threeL (p : Int) : List Itm := [mI 0, ⟨mS 1, ⟨#[120]⟩, p, false⟩, mI 2]

theorem three_good {p : Int} (h0 : 0 ≤ p) : Gd.goodB (threeL p) = decide (p ≤ 1000000000) := by
  by_cases hp : p ≤ 1000000000
  · rw [decide_eq_true hp]
    refine Gd.goodB_yes ⟨by show 3 ≤ 500; omega, fun i x y hx hy => ?_, fun i x hx => ?_⟩
    · have hl := (List.getElem?_eq_some_iff.1 hy).1
      obtain h | h : i = 0 ∨ i = 1 := by simp [threeL] at hl; omega
      · subst h
        simp [threeL] at hx hy
        subst hx hy
        exact mS_lt (i := 0) (by omega)
      · subst h
        simp [threeL] at hx hy
        subst hx hy
        exact mS_lt (i := 1) (by omega)
    · have hl := (List.getElem?_eq_some_iff.1 hx).1
      obtain h | h | h : i = 0 ∨ i = 1 ∨ i = 2 := by simp [threeL] at hl; omega
      · subst h
        simp [threeL] at hx
        subst hx
        exact mI_fine (by omega)
      · subst h
        simp [threeL] at hx
        subst hx
        unfold Gd.itemB
        show (Sr.name (mS 1) && Sr.name ⟨#[120]⟩ && (decide (0 ≤ p) && decide (p ≤ 1000000000))) = true
        rw [mS_name (by omega), one_name]
        simp [h0, hp]
      · subst h
        simp [threeL] at hx
        subst hx
        exact mI_fine (by omega)
  · rw [decide_eq_false hp]
    exact Gd.goodB_no fun g => by
      have h1 := g.each 1 ⟨mS 1, ⟨#[120]⟩, p, false⟩ rfl
      unfold Gd.itemB at h1
      simp [hp] at h1

theorem text_two (W : World) (a b : Nat) (ha : a < 256) (hb : b < 256) : (convert 24 9 (.slice (some ⟨W.heap.size, 0, none⟩) 2 2)).run Try.prog (W.alloc (.cells #[.int .u8 (a : Int), .int .u8 (b : Int)] 5)) = .ok (.string (By.strOf [UInt8.ofNat a, UInt8.ofNat b])) (W.alloc (.cells #[.int .u8 (a : Int), .int .u8 (b : Int)] 5)) := by
  have h : By.Bys (W.alloc (.cells #[.int .u8 (a : Int), .int .u8 (b : Int)] 5)) (W.heap.size + 1) (some ⟨W.heap.size, 0, none⟩) 2 [UInt8.ofNat a, UInt8.ofNat b] := ⟨rfl, fun k c hk => by
    refine ⟨W.heap.size, 0, rfl, by omega, ?_⟩
    have hl := (List.getElem?_eq_some_iff.1 hk).1
    rw [Nat.zero_add, Qu.Blk.cell (Qu.Blk.new W 5 _) k]
    obtain e | e : k = 0 ∨ k = 1 := by simp at hl; omega
    · subst e
      obtain rfl : UInt8.ofNat a = c := by simpa using hk
      rw [By.toNat_small ha]; rfl
    · subst e
      obtain rfl : UInt8.ofNat b = c := by simpa using hk
      rw [By.toNat_small hb]; rfl⟩
  exact By.run_text (P := Try.prog) (c := 2) 24 9 5 Try.underlying24 Try.underlying5 Try.underlying9 h

/-- The items while they are made. -/
structure Made (w wr : World) (v : Value) (k : Nat) : Prop where
  own : Own kItem wr w.heap.size 32 (fun _ => False) v k (mL k)
  below : Below w.heap.size w wr

set_option maxHeartbeats 2000000 in
theorem walk (w : World) (n : Int) (hn : (Lit.int .i64 n).wf = true) (price : Int) (hp : (Lit.int .i64 price).wf = true) :
    Calls Try.prog 7 #[.int .i64 n, .int .i64 price] w fun e w' => e = .returned (.bool true) ∧ Below w.heap.size w w' := by
  obtain ⟨t, ht⟩ : ∃ t, Py.modN n 4 = t := ⟨_, rfl⟩
  obtain ⟨q, hq⟩ : ∃ q, Py.modN price 4 = q := ⟨_, rfl⟩
  have ht4 := Py.modN_lt n 4 (by omega)
  have hq4 := Py.modN_lt price 4 (by omega)
  have HM := Lib.hid (Py.mod_any n 4 w (by omega) (by omega))
  have HQ := Lib.hid (Py.mod64_any price 4 w (by omega) (by omega))
  rw [ht] at ht4 HM
  rw [hq] at hq4 HQ
  have HM0 : Hid (Made w w (.slice none 0 0) 0) := Lib.hid ⟨Own.nil _ _ _ _ _, Below.refl _ _⟩
  clear hn hp ht hq
  go_enter Try.func7, Try.ntmps7
  go_wp2_with fail
  refine HM.out.mono ?_
  rintro e w1 ⟨rfl, rfl⟩
  go_wp2_with fail
  refine HQ.out.mono ?_
  rintro e w1 ⟨rfl, rfl⟩
  go_wp2
  go_loopw [5, 6] (fun s5 s6 wr => ∃ k : Nat, s6 = .int .i64 k ∧ k ≤ 498 + t ∧ Hid (Made w1 wr s5 k)) (fun _ s6 _ => 498 + t - (intOf s6).toNat)
  case atStart => exact ⟨0, rfl, by omega, HM0⟩
  case round =>
    clear HM0
    obtain ⟨k, rfl, hk, hM⟩ := hrel
    by_cases hlt : k < 498 + t
    · have k1 : (k : Int) < 498 + (t : Int) := by omega
      have k0 : (0 : Int) ≤ (k : Int) := by omega
      have hT := fun W => text_two W (97 + k / 26) (97 + k % 26) (by omega) (by omega)
      have hSt : By.strOf [UInt8.ofNat (97 + k / 26), UInt8.ofNat (97 + k % 26)] = mS k := rfl
      simp only [hSt] at hT
      have f1 : ((97 + k / 26 : Nat) : Int) = 97 + (k : Int) / 26 := by omega
      have f2 : ((97 + k % 26 : Nat) : Int) = 97 + (k : Int) % 26 := by omega
      simp only [f1, f2] at hT
      obtain ⟨W1, hW1⟩ : ∃ W1, wr.alloc (.cells #[.int .u8 (97 + (k : Int) / 26), .int .u8 (97 + (k : Int) % 26)] 5) = W1 := ⟨_, rfl⟩
      have hT1 := hT wr
      rw [hW1] at hT1
      have hb1 : Below wr.heap.size wr W1 := by rw [← hW1]; exact (Below.refl _ _).alloc (Nat.le_refl _) _
      have HOW : Hid (Own kItem W1 w1.heap.size 32 (fun _ => False) u5 k (mL k) ∧ Below w1.heap.size w1 W1 ∧ w1.heap.size ≤ W1.heap.size ∧ kItem.rep W1 (fun _ => False) (mI k) (mI k).enc) := Lib.hid (by
        have hb := hM.out.below.trans (hb1.mono hM.out.below.size)
        exact ⟨hM.out.own.later hb1, hb, hb.size, item_rep.2 ⟨rfl, mI_ok k⟩⟩)
      have HT : Hid (mL (k + 1) = mL k ++ [mI k]) := Lib.hid (mL_succ k)
      have k48 : (k + 1) * 48 ≤ 140737488355328 := by omega
      clear hM hT hSt f1 f2 hb1
      go_wp2_with ((at_builtin; refine Kd.wpList_push (W := W1) (F := fun _ => False) (B := w1.heap.size) (n := k) (v := u5) (xs := mL k) (y := mI k) (cs := (mI k).enc) Py.row_item_t rfl _ _ rfl rfl rfl rfl HOW.out.1 HOW.out.2.2.2 k48 (by omega) HOW.out.2.2.1 (fun _ h => h.elim) ?_; intro g cap w' hown hgrow hfr))
      have HM2 : Hid (Made w1 w' (.slice (some ⟨g, 0, none⟩) (k + 1) cap) (k + 1)) := Lib.hid ⟨by rw [HT.out]; exact hown, HOW.out.2.1.grown hgrow HOW.out.2.2.1 (fun j hj => (HOW.out.1.low j hj).1)⟩
      clear hown hgrow hfr
      go_wp2
      go_roundw
      case rel => exact ⟨k + 1, by go_num, by omega, HM2⟩
      case measure => simp [intOf]; omega
    · have hkt : k = 498 + t := by omega
      have k1 : ¬ (k : Int) < 498 + (t : Int) := by omega
      obtain ⟨A1, c1, rfl⟩ := hM.out.own.value
      have hfit := hM.out.own.fit.2
      obtain ⟨g, rfl, hg1, hg2⟩ := hM.out.own.first (by omega)
      have hR := Gd.right_any (some ⟨g, 0, none⟩) k c1 (mL k) (· < wr.heap.size) wr hM.out.own.read (fun b hb => hb) (by omega)
      rw [many_good (by omega)] at hR
      obtain ⟨b, hb⟩ : ∃ b, decide (k ≤ 500) = b := ⟨_, rfl⟩
      have hb2 : decide (498 + (t : Int) ≤ 500) = b := by rw [← hb]; congr 1; simp; omega
      rw [hb] at hR
      have e1 : (b == b) = true := by cases b <;> rfl
      have HR := Lib.hid hR
      have hS : ∀ W, (Instr.slice 28 (.slice (some ⟨g, 0, none⟩) k c1) none (some (.int .i64 3)) none).run Try.prog W = .ok (.slice (some ⟨g, 0, none⟩) 3 c1) W := fun W => Gd.item_to (some ⟨g, 0, none⟩) k c1 3 (by omega) W
      have h3 : (mL k).take 3 = mL 3 := by
        unfold mL
        rw [← List.map_take, List.take_range, Nat.min_eq_left (by omega)]
      have kb : k ≤ 501 ∧ 498 ≤ k := by omega
      clear hR hb HM HQ hkt
      go_wp2_with fail
      refine HR.out.mono ?_
      rintro e w2 ⟨rfl, hb2'⟩
      have HB2 := Lib.hid (hM.out.below.trans (hb2'.mono hM.out.below.size))
      have hrow : Row kItem w2 (· < w2.heap.size) (some ⟨g, 0, none⟩) 3 (mL 3) := by
        have h1 := (hM.out.own.later hb2').read.take (k := 3) (by omega)
        rw [h3] at h1
        exact h1
      have HRW := Lib.hid hrow
      clear hb2' hrow h3 hM hg1 hg2 HR
      go_wp2_with ((at_builtin; refine Kd.wpList_join (w1 := w2) (F := fun _ => False) (G := (· < w2.heap.size)) (B := w2.heap.size) (n := 0) (m := 3) (c := c1) (v := .slice none 0 0) (xs := []) (ys := mL 3) (A := some ⟨g, 0, none⟩) Py.row_item_t rfl _ _ rfl rfl rfl (Own.nil _ _ _ _ _) HRW.out (by simp) (fun h => item_rep.2 (item_rep.1 h)) (by omega) (by omega) (Nat.le_refl _) (fun _ h => h.elim) ?_; intro v' w' hown hgrow hfr; obtain ⟨A2, c2, hv2⟩ := hown.value; subst hv2; obtain ⟨g2, hg2, hlo, hhi⟩ := hown.first (by omega); subst hg2; have y6 := hown.cell (k := 1) (j := 2) (by omega) (by decide); obtain ⟨⟨y, y1⟩, y2⟩ := y6; have y1' : w'.cell? ⟨g2, 6, none⟩ = some y := y1; have y2' : w'.frozen? ⟨g2, 6, none⟩ = false := y2; have HOW := Lib.hid (And.intro hown (And.intro hgrow (And.intro hlo hhi))); clear hown hgrow hfr hlo hhi y1 y2))
      have HP : Hid (Own kItem (w'.setCell ⟨g2, 6, none⟩ (.int .i64 (999999998 + (q : Int)))) w2.heap.size 32 (fun _ => False) (.slice (some ⟨g2, 0, none⟩) 3 c2) 3 (threeL (999999998 + (q : Int))) ∧ Below w1.heap.size w1 (w'.setCell ⟨g2, 6, none⟩ (.int .i64 (999999998 + (q : Int))))) := Lib.hid (by
        obtain ⟨hown, hgrow, hlo, hhi⟩ := HOW.out
        have h0 : Own kItem w' w2.heap.size 32 (fun _ => False) (.slice (some ⟨g2, 0, none⟩) 3 c2) 3 (mL 3) := hown
        have h1 := Own.put (k := 1) (j := 2) (x := mI 1) (x' := ⟨mS 1, ⟨#[120]⟩, 999999998 + (q : Int), false⟩) (a := (mI 1).enc) (u := .int .i64 (999999998 + (q : Int))) h0 rfl (fun h => (item_rep.1 h).1) (by decide) (item_rep.2 ⟨rfl, (mI_ok 1).sku, (mI_ok 1).cat, by show -9223372036854775808 ≤ 999999998 + (q : Int); omega, by show 999999998 + (q : Int) ≤ 9223372036854775807; omega⟩) (fun _ h => h.elim)
        refine ⟨h1.1, ?_⟩
        have hb3 := HB2.out.grown hgrow HB2.out.size (fun j hj => by simp [Value.ownBlock] at hj)
        exact hb3.setCell (by have := HB2.out.size; show w1.heap.size ≤ g2; omega) _)
      have HS2 : Hid (∀ W, W = w'.setCell ⟨g2, 6, none⟩ (.int .i64 (999999998 + (q : Int))) → Below w1.heap.size w1 W ∧ ∀ W', Below W.heap.size W W' → Calls Try.prog 15 #[.slice (some ⟨g2, 0, none⟩) 3 c2] W' fun e w'' => e = .returned (.bool (decide ((999999998 : Int) + (q : Int) ≤ 1000000000))) ∧ Below W.heap.size W w'') := Lib.hid (fun W hW => by
        subst hW
        refine ⟨HP.out.2, fun W' hb => ?_⟩
        have h1 := Gd.right_any (some ⟨g2, 0, none⟩) 3 c2 (threeL (999999998 + (q : Int))) (· < W'.heap.size) W' (HP.out.1.later hb).read (fun b hb => hb) (by omega)
        rw [three_good (by omega)] at h1
        exact h1.mono fun e w'' h => ⟨h.1, Hk.andThen hb h.2⟩)
      obtain ⟨d, hd⟩ : ∃ d, decide ((999999998 : Int) + (q : Int) ≤ 1000000000) = d := ⟨_, rfl⟩
      simp only [hd] at HS2
      have e2 : (d == d) = true := by cases d <;> rfl
      clear HOW HP
      go_wp2_with fail
      refine (Gd.awake_any _).mono ?_
      rintro e w4 ⟨rfl, hb4⟩
      have HS3 := Lib.hid (HS2.out _ rfl)
      have HR4 := Lib.hid (HS3.out.2 _ hb4)
      have HZ := Lib.hid HS3.out.1.size
      clear hb4 HS2
      go_wp2_with fail
      refine HR4.out.mono ?_
      rintro e w5 ⟨rfl, hb5⟩
      have HB5 := Lib.hid (HS3.out.1.trans (hb5.mono HZ.out))
      clear hb5
      go_wp2
      go_ret
      exact ⟨rfl, HB5.out⟩

set_option maxRecDepth 100000 in
theorem lifted (os : Os) (started : os.Started) (H : Type) (enc : TypeId × Value → H) :
    ReturnsInHanded {} Try.checked os 7 .any (Rows.goodsManySpec.pre6 enc Try.prog Try.f7 Rows.goodsManyRow.domain false) (Rows.goodsManySpec.post enc Try.prog Try.f7 false true false false) := by
  refine returnsInHanded_of_change (C := Try.checked) own started (by kernel_rfl) Try.func7
    (ChangeSpec.witness6 (enc := enc) (C := Try.checked) false ⟨#[], #[.int .i64 0, .int .i64 0], []⟩ 8 (by kernel_rfl) (by kernel_rfl) (by kernel_rfl) (by kernel_rfl)) ?_
  intro W base args ds gs before hval0 hW hcnd _
  have hval : ∀ (j : Nat) t v, Try.f7.params[j]? = some t → args[j]? = some v → Value.okWide Try.prog W .any base t v := hval0
  have hW' := hW
  obtain ⟨p, q, hA0, hV, rfl, hfz, hnd⟩ := hW
  have hA : DataW.TrodAll enc Try.prog W 0 (fun _ => true) true Try.f7.params.toList args.toList ds p := hA0
  rw [Try.params7] at hA hval
  obtain ⟨v0, vs0, d0, ds0, p0, q0, hargs, rfl, rfl, h0, r0⟩ := trodAll_cons hA
  obtain ⟨v1, vs1, d1, ds1, p1, q1, rfl, rfl, rfl, h1, r1⟩ := trodAll_cons r0
  obtain ⟨rfl, rfl, rfl⟩ := trodAll_nil r1
  obtain rfl : args = #[v0, v1] := by cases args; simp_all
  obtain ⟨a0, rfl, _, _, w0⟩ := open_int Try.underlying3 (hval 0 3 v0 rfl rfl) h0
  obtain ⟨a1, rfl, _, _, w1⟩ := open_int Try.underlying2 (hval 1 2 v1 rfl rfl) h1
  refine (walk W a0 w0 a1 w1).mono fun e W' ⟨he, hb⟩ => ?_
  subst he
  exact ⟨_, rfl, Hk.closeLaw (tb := 4) (by kernel_rfl) (by kernel_rfl) rfl rfl rfl Try.underlying4 hW' hb⟩

theorem over : Rows.goodsManyRow.holds Try.pinned (OpenSpec.ofChange Rows.goodsManySpec) :=
  OpenClaim.holds_of_wide 7 Try.f7 rfl rfl rfl rfl rfl rfl rfl ⟨rfl, rfl, rfl, rfl, rfl⟩ rfl rfl rfl rfl rfl (by kernel_rfl) Try.func7 (by kernel_rfl)
    (of_decide_eq_true (by kernel_rfl)) (by unfold Func.isWrapper; first | (rw [if_pos (by decide +kernel)]; kernel_rfl) | (rw [if_neg (by decide +kernel)]; exact ⟨rfl, rfl⟩))
    (fun os started H enc _ => lifted os started H enc)

/-- The statement. -/
theorem proved : Rows.GoodsManySaid :=
  over
end Go.Proofs.Ytabfnkjdfninhaa.goodsMany
