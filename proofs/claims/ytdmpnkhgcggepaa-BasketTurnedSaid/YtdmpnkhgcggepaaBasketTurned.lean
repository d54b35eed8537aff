/- P14.1: one line turned: why it may not be; the first one that is wrong counts; for every slice of items, slice of lines, three ints, number and text. No conditions. -/
import Derived.Test.YtdmpnkhgcggepaaBkK
import Derived.Test.YtdmpnkhgcggepaaBkL
import Derived.Test.YtdmpnkhgcggepaaBa
set_option maxRecDepth 100000
namespace Go.Proofs.Ytdmpnkhgcggepaa.basketTurned
open Go.ChangeShapes Go.WideShapes Go.ChangeAt Go.RowKit
open It (Itm kItem row_item item_rep)
open Ap (Lin Unt kLin kUnt row_Lin row_Unt)
open Kd (Kind Row Own Cells Fit Agree eqL)
open Bk
set_option maxRecDepth 100000
set_option linter.unusedVariables false

theorem own : ownKnob Try.prog.godebug = none := by kernel_rfl

set_option maxHeartbeats 4000000 in
theorem walk (w : World) (A : Option Addr) (n c : Nat) (its : List Itm) (hrI : Row kItem w (· < w.heap.size) A n its) (hfI : Fit A n c) (B : Option Addr) (m d : Nat) (xs : List Lin) (hrL : Row kLin w (· < w.heap.size) B m xs) (hfL : Fit B m d)
    (at_ : Int) (hat : (Lit.int .i64 at_).wf = true) (how : Int) (hhow : (Lit.int .i64 how).wf = true) (qty : Int) (hqty : (Lit.int .i64 qty).wf = true) (price : Int) (hprice : (Lit.int .i64 price).wf = true) (s : ByteArray) (hs : s.size ≤ maxLen) :
    Calls Try.prog 5 #[.slice A n c, .slice B m d, .int .i64 at_, .int .i64 how, .int .i64 qty, .int .i64 price, .string s] w fun e w' => e = .returned (.bool true) ∧ Below w.heap.size w w' := by
  have HA := Lib.hid (awake_any w)
  by_cases h40 : 40 < n
  · have i1 : (40 : Int) < (n : Int) := by omega
    clear hrI hfI hrL hfL hat hhow hqty hprice hs
    go_enter Try.func5, Try.ntmps5
    go_wp2_with fail
    refine HA.out.mono ?_
    rintro e w1 ⟨rfl, hb⟩
    have HB := Lib.hid hb
    clear hb
    go_wp2
    go_ret
    exact ⟨rfl, HB.out⟩
  have i1 : ¬ (40 : Int) < (n : Int) := by omega
  by_cases g40 : 40 < m
  · have i2 : (40 : Int) < (m : Int) := by omega
    clear hrI hfI hrL hfL hat hhow hqty hprice hs
    go_enter Try.func5, Try.ntmps5
    go_wp2_with fail
    refine HA.out.mono ?_
    rintro e w1 ⟨rfl, hb⟩
    have HB := Lib.hid hb
    clear hb
    go_wp2
    go_ret
    exact ⟨rfl, HB.out⟩
  have i2 : ¬ (40 : Int) < (m : Int) := by omega
  by_cases s60 : 60 < s.size
  · have i3 : (60 : Int) < (s.size : Int) := by omega
    clear hrI hfI hrL hfL hat hhow hqty hprice hs
    go_enter Try.func5, Try.ntmps5
    go_wp2_with fail
    refine HA.out.mono ?_
    rintro e w1 ⟨rfl, hb⟩
    have HB := Lib.hid hb
    clear hb
    go_wp2
    go_ret
    exact ⟨rfl, HB.out⟩
  have i3 : ¬ (60 : Int) < (s.size : Int) := by omega
  have hq := Hk.wf_bounds hqty
  have hp := Hk.wf_bounds hprice
  have HQ := Lib.hid (And.intro hq (And.intro hp hs))
  have HI := Lib.hid (Py.items_any A n c its w hrI (by omega))
  have HRL := Lib.hid (At.mk (w := w) hrL (Below.refl _ _))
  have hm : m ≤ 40 := by omega
  obtain ⟨t, ht⟩ : ∃ t, Py.modN how 5 = t := ⟨_, rfl⟩
  have ht5 := Py.modN_lt how 5 (by omega)
  have HH := Lib.hid (fun W => Py.mod_any how 5 W (by omega) (by omega))
  rw [ht] at ht5
  simp only [ht] at HH
  clear hrI hfI hrL hfL HA h40 g40 s60 hat hhow hqty hprice hq hp hs ht
  go_enter Try.func5, Try.ntmps5
  go_wp2_with fail
  refine HI.out.mono ?_
  rintro e w1 ⟨v, rfl, hm1⟩
  obtain ⟨A1, c1, rfl⟩ := hm1.own.value
  have h8 : (Py.itemsOf its).take 8 = Py.itemsOf its := List.take_of_length_le (by rw [Py.itemsOf_length]; omega)
  have h1 := hm1.own
  rw [h8] at h1
  have HX1 := Lib.hid (And.intro h1.read (And.intro hm1.below h1.fit))
  have HRL1 := Lib.hid (HRL.out.on hm1.below)
  have HLn := Lib.hid (lines_any B m d xs w1 HRL1.out.row (by omega))
  obtain ⟨M0, hM0⟩ : ∃ M0, (linesOf xs).length = M0 := ⟨_, rfl⟩
  have hM8 := linesOf_length xs
  rw [hM0] at hM8
  obtain ⟨M, hM⟩ : ∃ M, M0 + 2 = M := ⟨_, rfl⟩
  have HM := Lib.hid (And.intro hM0 hM)
  clear hm1 h8 h1 HI HRL HRL1 i1 i2 i3 hM0 hM
  go_wp2_with fail
  refine HLn.out.mono ?_
  rintro e w2 ⟨A2, c2, rfl, ho2, hb2⟩
  rw [HM.out.1] at ho2
  simp only [HM.out.1]
  obtain ⟨W3, hW3⟩ : ∃ W3, w2.alloc (.cells #[.string ⟨#[97]⟩, .int .i64 1, .int .i64 5, .string ⟨#[98]⟩, .int .i64 1, .int .i64 5] 28) = W3 := ⟨_, rfl⟩
  have hbl3 : Qu.Blk W3 w2.heap.size 28 #[.string ⟨#[97]⟩, .int .i64 1, .int .i64 5, .string ⟨#[98]⟩, .int .i64 1, .int .i64 5] := by rw [← hW3]; exact Qu.Blk.new w2 _ _
  have hb3 : Below w2.heap.size w2 W3 := by rw [← hW3]; exact (Below.refl _ _).alloc (Nat.le_refl _) _
  have ho3 := ho2.later hb3
  have hb13 : Below w1.heap.size w1 W3 := hb2.trans (hb3.mono hb2.size)
  have hr3 : Row kLin W3 (· < W3.heap.size) (some ⟨w2.heap.size, 0, none⟩) 2 [⟨⟨#[97]⟩, 1, 5⟩, ⟨⟨#[98]⟩, 1, 5⟩] :=
    Kd.Own.read (B := w2.heap.size) (E := 28) (c := 2) (Kd.own_blk (cs := [.string ⟨#[97]⟩, .int .i64 1, .int .i64 5, .string ⟨#[98]⟩, .int .i64 1, .int .i64 5]) hbl3 (Nat.le_refl _) rfl ⟨[.string ⟨#[97]⟩, .int .i64 1, .int .i64 5], _, rfl, Ap.Lin_rep.2 ⟨rfl, ⟨by decide, by decide, by decide⟩⟩, [.string ⟨#[98]⟩, .int .i64 1, .int .i64 5], _, rfl, Ap.Lin_rep.2 ⟨rfl, ⟨by decide, by decide, by decide⟩⟩, rfl⟩ (Nat.le_refl _) (by decide) rfl rfl)
  have HO3 := Lib.hid (And.intro ho3 (And.intro hr3 hb13))
  have hw3 := Lib.hid hW3
  have hsz := hb13.size
  have hM2 : M0 + 2 = M := HM.out.2
  have HM2 := Lib.hid hM2
  clear hbl3 hb3 ho3 hb13 hr3 ho2 hb2 HLn hW3 hM2
  go_wp2_with ((at_builtin; (try rw [hw3.out]); refine Kd.wpList_join (F := fun _ => False) (G := (· < W3.heap.size)) (B := w1.heap.size) (n := M0) (m := 2) (c := 2) (v := .slice A2 M0 c2) (xs := linesOf xs) (ys := [⟨⟨#[97]⟩, 1, 5⟩, ⟨⟨#[98]⟩, 1, 5⟩]) (A := some ⟨w2.heap.size, 0, none⟩) row_lin_t rfl _ _ rfl rfl rfl HO3.out.1 HO3.out.2.1 (fun h => by cases h) (fun h => Ap.Lin_rep.2 (Ap.Lin_rep.1 h)) (by omega) (by omega) hsz (fun _ h => h.elim) ?_; intro v4 w4 hown hgrow hfr; rw [HM2.out] at hown; obtain ⟨A4, c4, rfl⟩ := hown.value; obtain ⟨g, rfl, hg1, hg2⟩ := hown.first (by have := HM2.out; omega); have HT := Lib.hid (Tn.mk (w1 := w1) ⟨_, hown⟩ (HO3.out.2.2.grown hgrow hsz (fun q hq => (HO3.out.1.low q hq).1))); clear hown hgrow hfr))
  have hM1 : 2 ≤ M ∧ M ≤ 10 := by have := HM2.out; omega
  obtain ⟨k, hk⟩ : ∃ k, Py.modN at_ (M : Int) = k := ⟨_, rfl⟩
  have hk5 := Py.modN_lt at_ (M : Int) (by omega)
  have HK := Lib.hid (fun W => Py.mod_any at_ (M : Int) W (by omega) (by omega))
  rw [hk] at hk5
  simp only [hk] at HK
  have k0 : (0 : Int) ≤ (k : Int) := by omega
  have k1 : (k : Int) < (M : Int) := by omega
  have kM : k < M := by omega
  clear hk hk5 hw3 HO3 hsz HM hg1 hg2
  go_wp2_with fail
  refine (HK.out _).mono ?_
  rintro e w5 ⟨rfl, rfl⟩
  go_wp2_with fail
  refine (HH.out _).mono ?_
  rintro e w6 ⟨rfl, rfl⟩
  clear HK HH
  go_upto_block 0 with (fail)
  go_cut [] (fun wx => Hid (Tn w1 wx g M c4))
  case first =>
    obtain rfl | rfl | rfl | rfl | rfl : t = 0 ∨ t = 1 ∨ t = 2 ∨ t = 3 ∨ t = 4 := by omega
    · obtain ⟨⟨u, hu⟩, hz⟩ := HT.out.cell (k := k) (j := 0) kM (by omega)
      simp only [Nat.add_zero] at hu hz
      have HE := Lib.hid (HT.out.sku kM s HQ.out.2.2)
      clear HT
      go_wp2_with fail
      go_meet
      exact HE
    · obtain ⟨⟨u, hu⟩, hz⟩ := HT.out.cell (k := k) (j := 1) kM (by omega)
      have HE := Lib.hid (HT.out.qty kM qty HQ.out.1)
      clear HT
      go_wp2_with fail
      go_meet
      exact HE
    · obtain ⟨⟨u, hu⟩, hz⟩ := HT.out.cell (k := k) (j := 2) kM (by omega)
      have HE := Lib.hid (HT.out.price kM price HQ.out.2.1)
      clear HT
      go_wp2_with fail
      go_meet
      exact HE
    · obtain ⟨⟨u, hu⟩, hz⟩ := HT.out.cell (k := k) (j := 1) kM (by omega)
      have HE1 := Lib.hid (HT.out.qty kM (-1) (by omega))
      obtain ⟨⟨u2, hu2⟩, hz2⟩ := HE1.out.cell (k := 0) (j := 2) (by omega) (by omega)
      have HE := Lib.hid (HE1.out.price (k := 0) (by omega) (-1) (by omega))
      simp only [Nat.zero_mul, Nat.zero_add] at hu2 hz2 HE
      have M0' : (0 : Int) < (M : Int) := by omega
      obtain ⟨W9, hW9⟩ : ∃ W9, w6.setCell ⟨g, k * 3 + 1, none⟩ (.int .i64 (-1)) = W9 := ⟨_, rfl⟩
      rw [hW9] at hu2 hz2 HE
      clear HT HE1
      go_wp2_with (rw [hW9])
      go_meet
      exact HE
    · obtain ⟨⟨u, hu⟩, hz⟩ := HT.out.cell (k := k) (j := 0) kM (by omega)
      simp only [Nat.add_zero] at hu hz
      have HE1 := Lib.hid (HT.out.sku kM ⟨#[113]⟩ (by decide))
      obtain ⟨z, hz1⟩ : ∃ z, M = z + 1 := ⟨M - 1, by omega⟩
      obtain ⟨⟨u2, hu2⟩, hz2⟩ := HE1.out.cell (k := z) (j := 1) (by omega) (by omega)
      have HE := Lib.hid (HE1.out.qty (k := z) (by omega) (-1) (by omega))
      have wz : IntKind.i64.wrap ((M : Int) - 1) = (z : Int) := by rw [IntWalk.i64_in _ (by omega)]; omega
      have z0 : (0 : Int) ≤ (z : Int) := by omega
      have z1 : (z : Int) < (M : Int) := by omega
      obtain ⟨W9, hW9⟩ : ∃ W9, w6.setCell ⟨g, k * 3, none⟩ (.string ⟨#[113]⟩) = W9 := ⟨_, rfl⟩
      rw [hW9] at hu2 hz2 HE
      clear HT HE1 hz1
      go_wp2_with (rw [hW9])
      go_meet
      exact HE
  case rest =>
    obtain ⟨ys, ho⟩ := hcut.out.own
    have HX := Lib.hid (At.mk (w := w) (row_on HX1.out.1 hcut.out.below) (HX1.out.2.1.trans (hcut.out.below.mono HX1.out.2.1.size)))
    have HY := Lib.hid (At.mk (w := w) ho.read HX.out.below)
    have HA := Lib.hid (awake_any wc)
    have hc8 : 8 ≤ c1 := by have := HX1.out.2.2.2.1; omega
    clear ho HT HX1 HQ
    go_wp2_with fail
    refine HA.out.mono ?_
    rintro e w8 ⟨rfl, hb8⟩
    have HX8 := Lib.hid (HX.out.on hb8)
    have HY8 := Lib.hid (HY.out.on hb8)
    have HC := Lib.hid (check_any A1 8 c1 (Py.itemsOf its) (some ⟨g, 0, none⟩) M c4 ys w8 HX8.out.row hc8 (by omega) HY8.out.row (by omega))
    obtain ⟨z, hz⟩ : ∃ z, checkE (Py.itemsOf its) ys = z := ⟨_, rfl⟩
    rw [hz] at HC
    clear hb8 HA HX HY
    go_wp2_with fail
    refine HC.out.mono ?_
    rintro e w9 ⟨rfl, hb9⟩
    have HX9 := Lib.hid (HX8.out.on hb9)
    have HY9 := Lib.hid (HY8.out.on hb9)
    have HC := Lib.hid (rcheck_any A1 8 c1 (Py.itemsOf its) _ (some ⟨g, 0, none⟩) M c4 ys _ w9 HX9.out.row (by omega) HY9.out.row (by omega))
    rw [hz] at HC
    have e1 : (z == z) = true := beq_self_eq_true z
    clear hb9 hz HX8 HY8
    go_wp2_with fail
    refine HC.out.mono ?_
    rintro e wa ⟨rfl, hd⟩
    have HB := Lib.hid (HX9.out.below.trans (hd.below _))
    clear hd HC
    go_wp2
    go_ret
    exact ⟨rfl, HB.out⟩

set_option maxRecDepth 100000 in
theorem lifted (os : Os) (started : os.Started) (H : Type) (enc : TypeId × Value → H) :
    ReturnsInHanded {} Try.checked os 5 .any (Rows.basketTurnedSpec.pre6 enc Try.prog Try.f5 Rows.basketTurnedRow.domain false) (Rows.basketTurnedSpec.post enc Try.prog Try.f5 false true false false) := by
  refine returnsInHanded_of_change (C := Try.checked) own started (by kernel_rfl) Try.func5
    (ChangeSpec.witness6 (enc := enc) (C := Try.checked) false ⟨#[], #[.slice none 0 0, .slice none 0 0, .int .i64 0, .int .i64 0, .int .i64 0, .int .i64 0, .string ⟨#[]⟩], []⟩ 8 (by kernel_rfl) (by kernel_rfl) (by kernel_rfl) (by kernel_rfl)) ?_
  intro W base args ds gs before hval0 hW hcnd _
  have hval : ∀ (j : Nat) t v, Try.f5.params[j]? = some t → args[j]? = some v → Value.okWide Try.prog W .any base t v := hval0
  have hW' := hW
  obtain ⟨p, q, hA0, hV, rfl, hfz, hnd⟩ := hW
  have hA : DataW.TrodAll enc Try.prog W 0 (fun _ => true) true Try.f5.params.toList args.toList ds p := hA0
  rw [Try.params5] at hA hval
  obtain ⟨v0, vs0, d0, ds0, p0, q0, hargs, rfl, rfl, h0, r0⟩ := trodAll_cons hA
  obtain ⟨v1, vs1, d1, ds1, p1, q1, rfl, rfl, rfl, h1, r1⟩ := trodAll_cons r0
  obtain ⟨v2, vs2, d2, ds2, p2, q2, rfl, rfl, rfl, h2, r2⟩ := trodAll_cons r1
  obtain ⟨v3, vs3, d3, ds3, p3, q3, rfl, rfl, rfl, h3, r3⟩ := trodAll_cons r2
  obtain ⟨v4, vs4, d4, ds4, p4, q4, rfl, rfl, rfl, h4, r4⟩ := trodAll_cons r3
  obtain ⟨v5, vs5, d5, ds5, p5, q5, rfl, rfl, rfl, h5, r5⟩ := trodAll_cons r4
  obtain ⟨v6, vs6, d6, ds6, p6, q6, rfl, rfl, rfl, h6, r6⟩ := trodAll_cons r5
  obtain ⟨rfl, rfl, rfl⟩ := trodAll_nil r6
  obtain rfl : args = #[v0, v1, v2, v3, v4, v5, v6] := by cases args; simp_all
  obtain ⟨A0, n0, c0, xs0, rfl, x0, y0⟩ := Kd.open_list It.reads_item Try.underlying22 (by decide) (hval 0 22 v0 rfl rfl) h0
  obtain ⟨A1, n1, c1, xs1, rfl, x1, y1⟩ := Kd.open_list Ap.reads_Lin Try.underlying23 (by decide) (hval 1 23 v1 rfl rfl) h1
  obtain ⟨a2, rfl, _, _, w2⟩ := open_int Try.underlying3 (hval 2 3 v2 rfl rfl) h2
  obtain ⟨a3, rfl, _, _, w3⟩ := open_int Try.underlying3 (hval 3 3 v3 rfl rfl) h3
  obtain ⟨a4, rfl, _, _, w4⟩ := open_int Try.underlying3 (hval 4 3 v4 rfl rfl) h4
  obtain ⟨a5, rfl, _, _, w5⟩ := open_int Try.underlying2 (hval 5 2 v5 rfl rfl) h5
  obtain ⟨s6, rfl, _, _, u6⟩ := Go.ChangeMaps.open_string Try.underlying9 (hval 6 9 v6 rfl rfl) h6
  refine (walk W A0 n0 c0 xs0 x0 y0 A1 n1 c1 xs1 x1 y1 a2 w2 a3 w3 a4 w4 a5 w5 s6 u6).mono fun e W' ⟨he, hb⟩ => ?_
  subst he
  exact ⟨_, rfl, Hk.closeLaw (tb := 4) (by kernel_rfl) (by kernel_rfl) rfl rfl rfl Try.underlying4 hW' hb⟩

theorem over : Rows.basketTurnedRow.holds Try.pinned (OpenSpec.ofChange Rows.basketTurnedSpec) :=
  OpenClaim.holds_of_wide 5 Try.f5 rfl rfl rfl rfl rfl rfl rfl ⟨rfl, rfl, rfl, rfl, rfl⟩ rfl rfl rfl rfl rfl (by kernel_rfl) Try.func5 (by kernel_rfl)
    (of_decide_eq_true (by kernel_rfl)) (by unfold Func.isWrapper; first | (rw [if_pos (by decide +kernel)]; kernel_rfl) | (rw [if_neg (by decide +kernel)]; exact ⟨rfl, rfl⟩))
    (fun os started H enc _ => lifted os started H enc)

/-- The statement. -/
theorem proved : Rows.BasketTurnedSaid :=
  over
end Go.Proofs.Ytdmpnkhgcggepaa.basketTurned
