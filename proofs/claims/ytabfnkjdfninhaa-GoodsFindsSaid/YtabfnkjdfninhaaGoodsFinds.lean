/- What follows of P10.1: each item of a right list is found at its place, what is between is not; for every slice of items and int. No conditions. -/
import Derived.Test.YtabfnkjdfninhaaGdL
import Derived.Test.YtabfnkjdfninhaaPyI
import Derived.Test.YtabfnkjdfninhaaBa
set_option maxRecDepth 100000
namespace Go.Proofs.Ytabfnkjdfninhaa.goodsFinds
open Go.ChangeShapes Go.WideShapes Go.ChangeAt Go.RowKit
open It (Itm kItem row_item row_ok item_rep)
open Kd (Kind Row Own Cells Fit Agree)
set_option linter.unusedVariables false

theorem own : ownKnob Try.prog.godebug = none := by kernel_rfl

theorem sku_inj {a b : Nat} (ha : a < 8) (hb : b < 8) (h : Py.skuS a = Py.skuS b) : a = b := by
  have h1 : (Py.skuS a).data.toList = (Py.skuS b).data.toList := by rw [h]
  unfold Py.skuS at h1
  rw [Py.chr_data, Py.chr_data] at h1
  simp only [List.cons.injEq, and_true] at h1
  have h2 := congrArg UInt8.toNat h1
  rw [By.toNat_small (by omega), By.toNat_small (by omega)] at h2
  omega

theorem finds_here (xs : List Itm) {k : Nat} (h : k < 8) : Gd.find (Py.skuS k) (Py.itemsOf xs) = (k : Int) :=
  Gd.find_rise (Py.items_rise xs) (Py.itemsOf_get xs h) (Py.itemAt_sku xs k)

theorem finds_not (xs : List Itm) (k : Nat) : Gd.find (Py.skuS k ++ ⟨#[45]⟩) (Py.itemsOf xs) = -1 := Gd.find_none fun i x hx e => by
  obtain ⟨_, rfl⟩ := Py.itemsOf_at hx
  rw [Py.itemAt_sku] at e
  have h1 := congrArg ByteArray.size e
  rw [ByteArray.size_append] at h1
  unfold Py.skuS at h1
  rw [Py.chr_size, Py.chr_size] at h1
  have : (ByteArray.mk #[45]).size = 1 := rfl
  omega

theorem finds_before (xs : List Itm) {k : Nat} (h : k < 8) : Gd.find (Py.skuS k) ((Py.itemsOf xs).take k) = -1 := Gd.find_none fun i x hx e => by
  rw [List.getElem?_take] at hx
  split at hx
  · obtain ⟨h8, rfl⟩ := Py.itemsOf_at hx
    rw [Py.itemAt_sku] at e
    have := sku_inj h8 h e
    omega
  · cases hx

theorem finds_first (xs : List Itm) {k : Nat} (h : k < 8) : Gd.find (Py.skuS k) ((Py.itemsOf xs).drop k) = 0 :=
  Gd.find_at (k := 0) (x := Py.itemAt xs k) (by rw [List.getElem?_drop]; exact Py.itemsOf_get xs h) (Py.itemAt_sku xs k) fun j y hj => by omega

set_option maxHeartbeats 1000000 in
theorem walk (w : World) (A : Option Addr) (n c : Nat) (xs : List Itm) (hrow : Row kItem w (· < w.heap.size) A n xs) (hfit : Fit A n c) (at_ : Int) (hat : (Lit.int .i64 at_).wf = true) :
    Calls Try.prog 6 #[.slice A n c, .int .i64 at_] w fun e w' => e = .returned (.bool true) ∧ Below w.heap.size w w' := by
  obtain ⟨_, hfc, hfx⟩ := hfit
  obtain ⟨m, hm⟩ : ∃ m, min n 8 = m := ⟨_, rfl⟩
  have hmn : m ≤ n := by omega
  have hm8 : m ≤ 8 := by omega
  have hmin1 : (if (n : Int) < 8 then (n : Int) else 8) = (m : Int) := by split <;> omega
  have hmin2 : (if (8 : Int) < (n : Int) then 8 else (n : Int)) = (m : Int) := by split <;> omega
  have hS := fun W => Gd.item_to A n c m (by omega) W
  obtain ⟨ys, hys⟩ : ∃ ys, xs.take m = ys := ⟨_, rfl⟩
  have hI := Py.items_any A m c (xs.take m) w (hrow.take hmn) (by omega)
  rw [hys] at hI
  have HI := Lib.hid hI
  obtain ⟨k, hk⟩ : ∃ k, Py.modN at_ 8 = k := ⟨_, rfl⟩
  have hk8 := Py.modN_lt at_ 8 (by omega)
  have HM := Lib.hid (fun W => Py.mod_any at_ 8 W (by omega) (by omega))
  rw [hk] at hk8
  simp only [hk] at HM
  clear hk hat hI hys hrow hm
  go_enter Try.func6, Try.ntmps6
  go_wp2_with fail
  refine HI.out.mono ?_
  rintro e w1 ⟨v, rfl, hm⟩
  obtain ⟨A1, c1, rfl⟩ := hm.own.value
  have h8 : (Py.itemsOf ys).take 8 = Py.itemsOf ys := List.take_of_length_le (by rw [Py.itemsOf_length]; omega)
  have h1 := hm.own
  rw [h8] at h1
  have hr : Row kItem w1 (· < w1.heap.size) A1 8 (Py.itemsOf ys) := (h1.more (G := (· < w1.heap.size)) fun _ h => h.elim).row fun g hg => by
    obtain ⟨_, cs, ho, _⟩ := h1
    exact (ho.lt g hg).2
  have hc8 := h1.fit.2.1
  have HB1 := Lib.hid hm.below
  have hk9 : k < 8 := by omega
  obtain ⟨g, o, rfl, _, hg, _, a0, _⟩ := row_item hr (Py.itemsOf_get ys hk9)
  rw [Py.itemAt_sku] at a0
  have hcell : ∀ u, Below w1.heap.size w1 u → u.cell? ⟨g, o + k * 4, none⟩ = some (.string (Py.skuS k)) := fun u hu => (hu.cell (p := ⟨g, _, none⟩) hg).trans a0
  have lift : ∀ {A n zs}, Row kItem w1 (· < w1.heap.size) A n zs → ∀ c s W, n ≤ c → n ≤ 8 → Below w1.heap.size w1 W → Calls Try.prog 17 #[.slice A n c, .string s] W fun e w' => e = .returned (.int .i64 (Gd.find s zs)) ∧ Below w1.heap.size w1 w' := fun {A n zs} h c s W hc hn hW =>
    (Gd.find_any A n c zs s (· < w1.heap.size) W (h.below hW (Nat.le_refl _)) (fun b hb => Nat.lt_of_lt_of_le hb hW.size) hc (by omega)).mono fun e w' h => ⟨h.1, Hk.andThen hW h.2⟩
  have HA := Lib.hid (fun W (hW : Below w1.heap.size w1 W) => (Gd.awake_any W).mono fun e w' h => (⟨h.1, Hk.andThen hW h.2⟩ : e = Ending.returned (.bool true) ∧ Below w1.heap.size w1 w'))
  have hR := fun W (hW : Below w1.heap.size w1 W) => (Gd.right_any (some ⟨g, o, none⟩) 8 c1 (Py.itemsOf ys) (· < w1.heap.size) W (hr.below hW (Nat.le_refl _)) (fun b hb => Nat.lt_of_lt_of_le hb hW.size) (by omega)).mono fun e w' h => (⟨h.1, Hk.andThen hW h.2⟩ : e = Ending.returned (.bool (Gd.goodB (Py.itemsOf ys))) ∧ Below w1.heap.size w1 w')
  rw [Gd.goodB_yes (Py.items_good ys)] at hR
  have HR := Lib.hid hR
  have hF1 := fun W => lift hr c1 (Py.skuS k) W hc8 (by omega)
  rw [finds_here ys hk9] at hF1
  have hF2 := fun W => lift hr c1 (Py.skuS k ++ ⟨#[45]⟩) W hc8 (by omega)
  rw [finds_not ys k] at hF2
  have hF3 := fun W => lift (hr.take (k := k) (by omega)) c1 (Py.skuS k) W (by omega) (by omega)
  rw [finds_before ys hk9] at hF3
  have hrd : Row kItem w1 (· < w1.heap.size) (if c1 = k then some ⟨g, o, none⟩ else (some (⟨g, o, none⟩ : Addr)).map (·.add (k * 4))) (8 - k) ((Py.itemsOf ys).drop k) := hr.drop (by omega) hc8
  obtain ⟨Ad, hAd⟩ : ∃ Ad, (if c1 = k then some ⟨g, o, none⟩ else (some (⟨g, o, none⟩ : Addr)).map (·.add (k * 4))) = Ad := ⟨_, rfl⟩
  have hSd := fun W => Gd.item_from (some ⟨g, o, none⟩) 8 c1 k (by omega) W
  rw [hAd] at hrd
  simp only [hAd] at hSd
  have hF4 := fun W => lift hrd (c1 - k) (Py.skuS k) W (by omega) (by omega)
  rw [finds_first ys hk9] at hF4
  have hSt := fun W => Gd.item_to (some ⟨g, o, none⟩) 8 c1 k (by omega) W
  have HF1 := Lib.hid hF1
  have HF2 := Lib.hid hF2
  have HF3 := Lib.hid hF3
  have HF4 := Lib.hid hF4
  have hsz : (Py.skuS k).size = 1 := by unfold Py.skuS; exact Py.chr_size _
  obtain ⟨s, hs⟩ : ∃ s, Py.skuS k = s := ⟨_, rfl⟩
  simp only [hs] at hcell HF1 HF2 HF3 HF4 hsz
  have k0 : (0 : Int) ≤ (k : Int) := by omega
  have k8 : (k : Int) < 8 := by omega
  clear hF1 hF2 hF3 hF4 hR lift hrd hr h1 h8 hm a0 hAd hs HI hS hmin1 hmin2
  go_wp2_with fail
  refine (HM.out _).mono ?_
  rintro e w2 ⟨rfl, rfl⟩
  go_wp2_with fail
  go_region_held3 (fun u => Below w2.heap.size w2 u)
    (first
      | assumption
      | exact (Below.refl _ _).drew
      | exact Below.refl _ _)
    (first
      | (go_at_call 10; refine (HA.out _ (by first | assumption | exact (Below.refl _ _).drew)).mono ?_; rintro e wz ⟨rfl, hz⟩)
      | (go_at_call 15; refine (HR.out _ (by first | assumption | exact (Below.refl _ _).drew)).mono ?_; rintro e wz ⟨rfl, hz⟩)
      | (go_at_call 17; ((with_reducible refine (HF1.out _ (by first | assumption | exact (Below.refl _ _).drew)).mono ?_); rintro e wz ⟨rfl, hz⟩))
      | (go_at_call 17; ((with_reducible refine (HF2.out _ (by first | assumption | exact (Below.refl _ _).drew)).mono ?_); rintro e wz ⟨rfl, hz⟩))
      | (go_at_call 17; ((with_reducible refine (HF3.out _ (by first | assumption | exact (Below.refl _ _).drew)).mono ?_); rintro e wz ⟨rfl, hz⟩))
      | (go_at_call 17; ((with_reducible refine (HF4.out _ (by first | assumption | exact (Below.refl _ _).drew)).mono ?_); rintro e wz ⟨rfl, hz⟩)))
  have HB2 := Lib.hid (HB1.out.trans (hz.mono HB1.out.size))
  clear hz
  go_wp2
  go_ret
  exact ⟨rfl, HB2.out⟩

set_option maxRecDepth 100000 in
theorem lifted (os : Os) (started : os.Started) (H : Type) (enc : TypeId × Value → H) :
    ReturnsInHanded {} Try.checked os 6 .any (Rows.goodsFindsSpec.pre6 enc Try.prog Try.f6 Rows.goodsFindsRow.domain false) (Rows.goodsFindsSpec.post enc Try.prog Try.f6 false true false false) := by
  refine returnsInHanded_of_change (C := Try.checked) own started (by kernel_rfl) Try.func6
    (ChangeSpec.witness6 (enc := enc) (C := Try.checked) false ⟨#[], #[.slice none 0 0, .int .i64 0], []⟩ 8 (by kernel_rfl) (by kernel_rfl) (by kernel_rfl) (by kernel_rfl)) ?_
  intro W base args ds gs before hval0 hW hcnd _
  have hval : ∀ (j : Nat) t v, Try.f6.params[j]? = some t → args[j]? = some v → Value.okWide Try.prog W .any base t v := hval0
  have hW' := hW
  obtain ⟨p, q, hA0, hV, rfl, hfz, hnd⟩ := hW
  have hA : DataW.TrodAll enc Try.prog W 0 (fun _ => true) true Try.f6.params.toList args.toList ds p := hA0
  rw [Try.params6] at hA hval
  obtain ⟨v0, vs0, d0, ds0, p0, q0, hargs, rfl, rfl, h0, r0⟩ := trodAll_cons hA
  obtain ⟨v1, vs1, d1, ds1, p1, q1, rfl, rfl, rfl, h1, r1⟩ := trodAll_cons r0
  obtain ⟨rfl, rfl, rfl⟩ := trodAll_nil r1
  obtain rfl : args = #[v0, v1] := by cases args; simp_all
  obtain ⟨A0, n0, c0, xs0, rfl, x0, y0⟩ := Kd.open_list It.reads_item Try.underlying28 (by decide) (hval 0 28 v0 rfl rfl) h0
  obtain ⟨a1, rfl, _, _, w1⟩ := open_int Try.underlying3 (hval 1 3 v1 rfl rfl) h1
  refine (walk W A0 n0 c0 xs0 x0 y0 a1 w1).mono fun e W' ⟨he, hb⟩ => ?_
  subst he
  exact ⟨_, rfl, Hk.closeLaw (tb := 4) (by kernel_rfl) (by kernel_rfl) rfl rfl rfl Try.underlying4 hW' hb⟩

theorem over : Rows.goodsFindsRow.holds Try.pinned (OpenSpec.ofChange Rows.goodsFindsSpec) :=
  OpenClaim.holds_of_wide 6 Try.f6 rfl rfl rfl rfl rfl rfl rfl ⟨rfl, rfl, rfl, rfl, rfl⟩ rfl rfl rfl rfl rfl (by kernel_rfl) Try.func6 (by kernel_rfl)
    (of_decide_eq_true (by kernel_rfl)) (by unfold Func.isWrapper; first | (rw [if_pos (by decide +kernel)]; kernel_rfl) | (rw [if_neg (by decide +kernel)]; exact ⟨rfl, rfl⟩))
    (fun os started H enc _ => lifted os started H enc)

/-- The statement. -/
theorem proved : Rows.GoodsFindsSaid :=
  over
end Go.Proofs.Ytabfnkjdfninhaa.goodsFinds
