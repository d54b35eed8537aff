/- P10.1: whether any list of up to sixty items, or one near to it, may be; where any text stands in it; nothing is turned; for every slice of items, bool and string. No conditions. -/
import Derived.Test.YtabfnkjdfninhaaGdL
import Derived.Test.YtabfnkjdfninhaaPyI
import Derived.Test.YtabfnkjdfninhaaBa
set_option maxRecDepth 100000
namespace Go.Proofs.Ytabfnkjdfninhaa.goodsRight
open Go.ChangeShapes Go.WideShapes Go.ChangeAt Go.RowKit
open It (Itm kItem row_item row_ok item_rep)
open Kd (Kind Row Own Cells Fit Agree)
set_option linter.unusedVariables false

theorem own : ownKnob Try.prog.godebug = none := by kernel_rfl

def spoilt : Itm := ⟨⟨#[115, 112, 111, 105, 108, 116]⟩, ⟨#[]⟩, 0, false⟩

theorem spoilt_ok : spoilt.ok := ⟨by decide, by decide, by decide, by decide⟩

/-- A list that is at hand. -/
structure Given (w wx : World) (A : Option Addr) (n c : Nat) (xs : List Itm) : Prop where
  row : Row kItem wx (· < wx.heap.size) A n xs
  fit : Fit A n c
  few : n ≤ 60
  below : Below w.heap.size w wx

theorem Given.on {w wx wy : World} {A : Option Addr} {n c : Nat} {xs : List Itm} (h : Given w wx A n c xs) (hb : Below wx.heap.size wx wy) : Given w wy A n c xs :=
  ⟨(h.row.below hb (Nat.le_refl _)).lift hb.size, h.fit, h.few, h.below.trans (hb.mono h.below.size)⟩

set_option maxHeartbeats 1000000 in
theorem walk (w : World) (A : Option Addr) (n c : Nat) (xs : List Itm) (hrow : Row kItem w (· < w.heap.size) A n xs) (hfit : Fit A n c) (near : Bool) (s : ByteArray) (hs : s.size ≤ maxLen) :
    Calls Try.prog 4 #[.slice A n c, .bool near, .string s] w fun e w' => e = .returned (.bool true) ∧ Below w.heap.size w w' := by
  have hn63 : n ≤ 9223372036854775807 := by have := hfit.2; omega
  by_cases h60 : 60 < n
  · have i1 : (60 : Int) < (n : Int) := by omega
    clear hrow hfit h60
    go_enter Try.func4, Try.ntmps4
    go_wp2_with fail
    refine (Gd.awake_any _).mono ?_
    rintro e w1 ⟨rfl, hb⟩
    have HB := Lib.hid hb
    clear hb
    go_wp2
    go_ret
    exact ⟨rfl, HB.out⟩
  have i1 : ¬ (60 : Int) < (n : Int) := by omega
  have HG0 := Lib.hid (Given.mk (w := w) hrow hfit (by omega) (Below.refl _ _))
  have HI := Lib.hid (Py.items_any A n c xs w hrow (by omega))
  have n60 : n ≤ 60 := by omega
  clear hrow hfit h60
  go_enter Try.func4, Try.ntmps4
  go_upto_if 12 with (fail)
  go_cut [0] (fun s0 wx => ∃ (A : Option Addr) (n c : Nat) (xs : List Itm), s0 = .slice A n c ∧ Hid (Given w wx A n c xs))
  case first =>
    cases near with
    | false =>
      go_wp2_with fail
      go_meet
      exact ⟨A, n, c, xs, rfl, HG0⟩
    | true =>
      go_wp2_with fail
      refine HI.out.mono ?_
      rintro e w1 ⟨v, rfl, hm⟩
      obtain ⟨A1, c1, rfl⟩ := hm.own.value
      have HG : Hid (Given w w1 A1 8 c1 (Py.itemsOf xs)) := Lib.hid ⟨by
        have h8 : (Py.itemsOf xs).take 8 = Py.itemsOf xs := List.take_of_length_le (by rw [Py.itemsOf_length]; omega)
        have h1 := hm.own
        rw [h8] at h1
        refine (h1.more (G := (· < w1.heap.size)) fun _ h => h.elim).row fun g hg => ?_
        obtain ⟨_, cs, ho, _⟩ := h1
        exact (ho.lt g hg).2, hm.own.fit, by omega, hm.below⟩
      clear hm
      go_wp2_with fail
      go_meet
      exact ⟨A1, 8, c1, _, rfl, HG⟩
  case rest =>
    obtain ⟨A2, n2, c2, ys, rfl, HG⟩ := hcut
    have n2le := HG.out.few
    clear HG0 HI i1 n60
    have HO := Lib.hid (It.own_any A2 n2 c2 ys spoilt wc HG.out.row HG.out.fit spoilt_ok (by omega))
    go_wp2_with fail
    refine HO.out.mono ?_
    rintro e w1 ⟨g, rfl, hg1, hg2, hrow, hb⟩
    have HG1 := Lib.hid (HG.out.on hb)
    have HR1 := Lib.hid hrow
    clear hrow hb HO HG
    have hl : ys.length = n2 := HG1.out.row.len
    have hfr : Row kItem w1 (· < w1.heap.size) (some ⟨g, 0, none⟩) n2 ys := Kd.row_front HR1.out hl
    have HA := Lib.hid (fun W (hW : Below w1.heap.size w1 W) => (Gd.awake_any W).mono fun e w' h => (⟨h.1, Hk.andThen hW h.2⟩ : e = Ending.returned (.bool true) ∧ Below w1.heap.size w1 w'))
    have HR := Lib.hid (fun W (hW : Below w1.heap.size w1 W) => (Gd.right_any (some ⟨g, 0, none⟩) n2 (n2 + 3) ys (· < w1.heap.size) W (hfr.below hW (Nat.le_refl _)) (fun b hb => Nat.lt_of_lt_of_le hb hW.size) (by omega)).mono fun e w' h => (⟨h.1, Hk.andThen hW h.2⟩ : e = Ending.returned (.bool (Gd.goodB ys)) ∧ Below w1.heap.size w1 w'))
    have HRR := Lib.hid (fun W (hW : Below w1.heap.size w1 W) => (Gd.rgoods_any A2 n2 c2 ys (· < w1.heap.size) W (HG1.out.row.below hW (Nat.le_refl _)) (by omega)).mono fun e w' h => (⟨h.1, hW.trans (h.2.below _)⟩ : e = Ending.returned (.bool (Gd.goodB ys)) ∧ Below w1.heap.size w1 w'))
    have HF := Lib.hid (fun W (hW : Below w1.heap.size w1 W) => (Gd.find_any (some ⟨g, 0, none⟩) n2 (n2 + 3) ys s (· < w1.heap.size) W (hfr.below hW (Nat.le_refl _)) (fun b hb => Nat.lt_of_lt_of_le hb hW.size) (by omega) (by omega)).mono fun e w' h => (⟨h.1, Hk.andThen hW h.2⟩ : e = Ending.returned (.int .i64 (Gd.find s ys)) ∧ Below w1.heap.size w1 w'))
    have HFR := Lib.hid (fun W (hW : Below w1.heap.size w1 W) => (Gd.rfind_any A2 n2 c2 ys s (· < w1.heap.size) W (HG1.out.row.below hW (Nat.le_refl _)) (by omega)).mono fun e w' h => (⟨h.1, hW.trans (h.2.below _)⟩ : e = Ending.returned (.int .i64 (Gd.find s ys)) ∧ Below w1.heap.size w1 w'))
    have HK := Lib.hid (fun W (hW : Below w1.heap.size w1 W) => (It.kept_any (some ⟨g, 0, none⟩) A2 n2 c2 ys spoilt (· < w1.heap.size) W (HR1.out.below hW (Nat.le_refl _)) (HG1.out.row.below hW (Nat.le_refl _)) (fun b hb => Nat.lt_of_lt_of_le hb hW.size) (by omega)).mono fun e w' h => (⟨h.1, Hk.andThen hW h.2⟩ : e = Ending.returned (.bool true) ∧ Below w1.heap.size w1 w'))
    clear hfr hl hg1 hg2 HR1 hs
    obtain ⟨b, hb⟩ : ∃ b, Gd.goodB ys = b := ⟨_, rfl⟩
    simp only [hb] at HR HRR
    obtain ⟨z, hz⟩ : ∃ z, Gd.find s ys = z := ⟨_, rfl⟩
    simp only [hz] at HF HFR
    have e1 : (b == b) = true := by cases b <;> rfl
    have e2 : (z == z) = true := beq_self_eq_true z
    clear hb hz
    go_wp2_with fail
    refine (HA.out _ (Below.refl _ _)).mono ?_
    rintro e w2 ⟨rfl, hb2⟩
    have HB2 := Lib.hid hb2
    clear hb2
    go_wp2_with fail
    refine (HR.out _ HB2.out).mono ?_
    rintro e w3 ⟨rfl, hb3⟩
    have HB3 := Lib.hid hb3
    clear hb3
    go_wp2_with fail
    refine (HRR.out _ HB3.out).mono ?_
    rintro e w4 ⟨rfl, hb4⟩
    have HB4 := Lib.hid hb4
    clear hb4
    go_wp2_with fail
    refine (HF.out _ HB4.out).mono ?_
    rintro e w5 ⟨rfl, hb5⟩
    have HB5 := Lib.hid hb5
    clear hb5
    go_wp2_with fail
    refine (HFR.out _ HB5.out).mono ?_
    rintro e w6 ⟨rfl, hb6⟩
    have HB6 := Lib.hid hb6
    clear hb6
    go_wp2_with fail
    refine (HK.out _ HB6.out).mono ?_
    rintro e w7 ⟨rfl, hb7⟩
    have HB7 := Lib.hid (HG1.out.below.trans (hb7.mono HG1.out.below.size))
    clear hb7
    go_wp2
    go_ret
    exact ⟨rfl, HB7.out⟩

set_option maxRecDepth 100000 in
theorem lifted (os : Os) (started : os.Started) (H : Type) (enc : TypeId × Value → H) :
    ReturnsInHanded {} Try.checked os 4 .any (Rows.goodsRightSpec.pre6 enc Try.prog Try.f4 Rows.goodsRightRow.domain false) (Rows.goodsRightSpec.post enc Try.prog Try.f4 false true false false) := by
  refine returnsInHanded_of_change (C := Try.checked) own started (by kernel_rfl) Try.func4
    (ChangeSpec.witness6 (enc := enc) (C := Try.checked) false ⟨#[], #[.slice none 0 0, .bool false, .string ⟨#[]⟩], []⟩ 8 (by kernel_rfl) (by kernel_rfl) (by kernel_rfl) (by kernel_rfl)) ?_
  intro W base args ds gs before hval0 hW hcnd _
  have hval : ∀ (j : Nat) t v, Try.f4.params[j]? = some t → args[j]? = some v → Value.okWide Try.prog W .any base t v := hval0
  have hW' := hW
  obtain ⟨p, q, hA0, hV, rfl, hfz, hnd⟩ := hW
  have hA : DataW.TrodAll enc Try.prog W 0 (fun _ => true) true Try.f4.params.toList args.toList ds p := hA0
  rw [Try.params4] at hA hval
  obtain ⟨v0, vs0, d0, ds0, p0, q0, hargs, rfl, rfl, h0, r0⟩ := trodAll_cons hA
  obtain ⟨v1, vs1, d1, ds1, p1, q1, rfl, rfl, rfl, h1, r1⟩ := trodAll_cons r0
  obtain ⟨v2, vs2, d2, ds2, p2, q2, rfl, rfl, rfl, h2, r2⟩ := trodAll_cons r1
  obtain ⟨rfl, rfl, rfl⟩ := trodAll_nil r2
  obtain rfl : args = #[v0, v1, v2] := by cases args; simp_all
  obtain ⟨A0, n0, c0, xs0, rfl, x0, y0⟩ := Kd.open_list It.reads_item Try.underlying28 (by decide) (hval 0 28 v0 rfl rfl) h0
  obtain ⟨a1, rfl, _, _⟩ := open_bool Try.underlying4 (hval 1 4 v1 rfl rfl) h1
  obtain ⟨s2, rfl, _, _, u2⟩ := Go.ChangeMaps.open_string Try.underlying9 (hval 2 9 v2 rfl rfl) h2
  refine (walk W A0 n0 c0 xs0 x0 y0 a1 s2 u2).mono fun e W' ⟨he, hb⟩ => ?_
  subst he
  exact ⟨_, rfl, Hk.closeLaw (tb := 4) (by kernel_rfl) (by kernel_rfl) rfl rfl rfl Try.underlying4 hW' hb⟩

theorem over : Rows.goodsRightRow.holds Try.pinned (OpenSpec.ofChange Rows.goodsRightSpec) :=
  OpenClaim.holds_of_wide 4 Try.f4 rfl rfl rfl rfl rfl rfl rfl ⟨rfl, rfl, rfl, rfl, rfl⟩ rfl rfl rfl rfl rfl (by kernel_rfl) Try.func4 (by kernel_rfl)
    (of_decide_eq_true (by kernel_rfl)) (by unfold Func.isWrapper; first | (rw [if_pos (by decide +kernel)]; kernel_rfl) | (rw [if_neg (by decide +kernel)]; exact ⟨rfl, rfl⟩))
    (fun os started H enc _ => lifted os started H enc)

/-- The statement. -/
theorem proved : Rows.GoodsRightSaid :=
  over
end Go.Proofs.Ytabfnkjdfninhaa.goodsRight
