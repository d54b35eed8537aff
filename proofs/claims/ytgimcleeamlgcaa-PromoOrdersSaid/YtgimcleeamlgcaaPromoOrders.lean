/- P12.1: whether any promos may be together; in which order they are tried, with any codes; nothing is turned; for every slice of promos, slice of codes and flag. No conditions. -/
import Derived.Test.YtgimcleeamlgcaaPmZ
import Derived.Test.YtgimcleeamlgcaaPrU
import Derived.Test.YtgimcleeamlgcaaHpB
import Derived.Test.YtgimcleeamlgcaaBa
set_option maxRecDepth 100000
namespace Go.Proofs.Ytgimcleeamlgcaa.promoOrders
open Go.ChangeShapes Go.WideShapes Go.ChangeAt Go.RowKit
open Ap (Scp Prt Tir Prm kPrm row_Prm)
open Kd (Kind Row Own Cells Fit Agree Lst Sl kStr kInt kList row_str Deep)
set_option maxRecDepth 100000
set_option linter.unusedVariables false

theorem own : ownKnob Try.prog.godebug = none := by kernel_rfl

/-- What stands in memory: the promotions, the codes. -/
structure Sit (w W : World) (A : Option Addr) (n : Nat) (xs : List Prm) (C : Option Addr) (m mc : Nat) (cs : List ByteArray) : Prop where
  rows : Row kPrm W (· < W.heap.size) A n xs
  slights : Pm.Slights xs
  names : Row kStr W (· < W.heap.size) C m cs
  fit : Fit C m mc
  below : Below w.heap.size w W

theorem row_on {α : Type} {K : Kind α} {W W' : World} {A : Option Addr} {n : Nat} {xs : List α} (h : Row K W (· < W.heap.size) A n xs) (hb : Below W.heap.size W W') : Row K W' (· < W'.heap.size) A n xs :=
  (h.below hb (Nat.le_refl _)).more fun b hb2 => Nat.lt_of_lt_of_le hb2 hb.size

theorem Sit.later {w W W' : World} {A C : Option Addr} {n m mc : Nat} {xs : List Prm} {cs : List ByteArray} (h : Sit w W A n xs C m mc cs) (hb : Below W.heap.size W W') : Sit w W' A n xs C m mc cs :=
  ⟨row_on h.rows hb, h.slights, row_on h.names hb, h.fit, h.below.trans (hb.mono h.below.size)⟩

def spT : ByteArray := ⟨#[115, 112, 111, 105, 108, 116]⟩

theorem ints_same (l : List Int) : Kd.eqL Hp.eqI l l = true := Kd.eqL_refl (fun z => Hp.eqI_iff.2 rfl) l

set_option maxHeartbeats 2000000 in
theorem walk (w : World) (A : Option Addr) (n c : Nat) (xs : List Prm) (h0 : Row kPrm w (· < w.heap.size) A n xs) (f0 : Fit A n c) (C : Option Addr) (m cc : Nat) (cs : List ByteArray) (h1 : Row kStr w (· < w.heap.size) C m cs) (f1 : Fit C m cc) (a2 : Bool) :
    Calls Try.prog 5 #[.slice A n c, .slice C m cc, .bool a2] w fun e w' => e = .returned (.bool true) ∧ Below w.heap.size w w' := by
  have HR := Lib.hid (And.intro h0 (And.intro h1 f1))
  have HA0 := Lib.hid (Pm.awake_any w)
  clear h0 f0 h1 f1
  by_cases hm30 : 30 < n
  · have k1 : (30 : Int) < (n : Int) := by omega
    go_enter Try.func5, Try.ntmps5
    go_wp2_with fail
    refine HA0.out.mono ?_
    rintro e w3 ⟨rfl, hb3⟩
    have HB3 := Lib.hid hb3
    clear hb3
    go_wp2
    go_ret
    exact ⟨rfl, HB3.out⟩
  have n30 : ¬ (30 : Int) < (n : Int) := by omega
  by_cases hc30 : 30 < m
  · have k1 : (30 : Int) < (m : Int) := by omega
    go_enter Try.func5, Try.ntmps5
    go_wp2_with fail
    refine HA0.out.mono ?_
    rintro e w3 ⟨rfl, hb3⟩
    have HB3 := Lib.hid hb3
    clear hb3
    go_wp2
    go_ret
    exact ⟨rfl, HB3.out⟩
  have m30 : ¬ (30 : Int) < (m : Int) := by omega
  have HN30 := Lib.hid (And.intro (show n ≤ 30 by omega) (show m ≤ 30 by omega))
  clear HA0 hm30 hc30
  go_enter Try.func5, Try.ntmps5
  go_wp2
  go_loopw [7] (fun s wr => ∃ i : Nat, s = .int .i64 i ∧ i ≤ n ∧ Hid ((∀ (k : Nat) (p : Prm), k < i → xs[k]? = some p → Pm.Slight p) ∧ Below w.heap.size w wr)) (fun s _ => n - (intOf s).toNat)
  case atStart => exact ⟨0, rfl, by omega, Lib.hid ⟨fun k p hk => by omega, Below.refl _ _⟩⟩
  case round =>
    obtain ⟨i, rfl, hi, hF⟩ := hrel
    have i0 : (0 : Int) ≤ (i : Int) := by omega
    by_cases hlt : i < n
    · have i1 : (i : Int) < (n : Int) := by omega
      obtain ⟨p, hp⟩ := HR.out.1.get hlt
      obtain ⟨g, o, l, rfl, _, _, hh, c0, c1, c2, c3, c4, c5, c6, c7, c8, c9, c10, c11, c12, c13, c14⟩ := row_Prm (row_on HR.out.1 hF.out.2) hp
      have HFW := Lib.hid (Pm.few_any p l wr hh)
      have HP := Lib.hid hp
      clear hh hp
      go_wp2_with fail
      refine HFW.out.mono ?_
      rintro e w2 ⟨b, rfl, hfew, hb2⟩
      have HB2 := Lib.hid (hF.out.2.trans (hb2.mono hF.out.2.size))
      clear hb2 c0 c1 c2 c3 c4 c5 c6 c7 c8 c9 c10 c11 c12 c13 c14 HFW
      cases b with
      | false =>
        have HA := Lib.hid (Pm.awake_any w2)
        clear hfew
        go_wp2_with fail
        refine HA.out.mono ?_
        rintro e w3 ⟨rfl, hb3⟩
        have HB3 := Lib.hid (HB2.out.trans (hb3.mono HB2.out.size))
        clear hb3
        go_wp2
        go_ret
        exact ⟨rfl, HB3.out⟩
      | true =>
        have HF2 : Hid ((∀ (k : Nat) (p : Prm), k < i + 1 → xs[k]? = some p → Pm.Slight p) ∧ Below w.heap.size w w2) := Lib.hid ⟨fun k y hk hy => by
          rcases Nat.lt_or_ge k i with h1 | h1
          · exact hF.out.1 k y h1 hy
          · obtain rfl : k = i := by omega
            rw [HP.out] at hy; injection hy with hy; subst hy; exact (hfew rfl).slight, HB2.out⟩
        clear hfew hF
        go_wp2
        go_roundw
        case rel => exact ⟨i + 1, by go_num, by omega, HF2⟩
        case measure => simp [intOf]; omega
    · obtain rfl : i = n := by omega
      have i1 : ¬ (i : Int) < (i : Int) := by omega
      have HSl := Lib.hid (show Sit w wr A i xs C m cc cs from ⟨row_on HR.out.1 hF.out.2, fun k p hp => hF.out.1 k p (by have := (List.getElem?_eq_some_iff.1 hp).1; have := HR.out.1.len; omega) hp, row_on HR.out.2.1 hF.out.2, HR.out.2.2, hF.out.2⟩)
      clear hF HR
      go_upto_if 33 with (fail)
      go_cut [0, 1] (fun s0 s1 wx => ∃ A n c xs C m cc cs, s0 = .slice A n c ∧ s1 = .slice C m cc ∧ n ≤ 30 ∧ m ≤ 30 ∧ Hid (Sit w wx A n xs C m cc cs))
      case first =>
        cases a2 with
        | false =>
          go_wp2
          go_meet
          exact ⟨_, _, _, _, _, _, _, _, rfl, rfl, HN30.out.1, HN30.out.2, HSl⟩
        | true =>
          have HP := Lib.hid (Py.promos_any A i c xs wr HSl.out.rows HSl.out.slights (by have := HN30.out; omega))
          go_wp2_with fail
          refine HP.out.mono ?_
          rintro e w1 ⟨v, L, k, rfl, hk, hL⟩
          obtain ⟨A5, c5, rfl⟩ := hL.own.value
          have hs1 := HSl.out.rows
          have hq := Py.codes_any C m cc cs w1 ((row_on HSl.out.names hL.below)) (by have := HN30.out; omega)
          have HQ := Lib.hid hq
          have HL := Lib.hid hL
          clear hq hs1 hL HP
          go_wp2_with fail
          refine HQ.out.mono ?_
          rintro e w2 ⟨v, rfl, hG⟩
          obtain ⟨A6, c6, hv⟩ := hG.own.value
          subst hv
          have HS2 : Hid (Sit w w2 A5 k L A6 (Py.someTo cs 3 3 3).length c6 (Py.namesOf Py.codeS cs 3 3 3)) := Lib.hid ⟨row_on HL.out.own.read hG.below, HL.out.slights, hG.own.read, hG.own.fit, (HSl.out.below.trans (HL.out.below.mono HSl.out.below.size)).trans (hG.below.mono (by have := HSl.out.below.size; have := HL.out.below.size; omega))⟩
          have h3 := (Py.someTo_len cs 3 3 3).2
          clear hG HQ
          go_wp2_with fail
          go_meet
          exact ⟨_, _, _, _, _, _, _, _, rfl, rfl, by omega, by omega, HS2⟩
      case rest =>
        obtain ⟨A, n, c, xs, C, m, cc, cs, rfl, rfl, hn30, hm30, hS⟩ := hcut
        clear HSl
        have HO := Lib.hid (Hp.own_str C m cc cs spT wc hS.out.names hS.out.fit (by unfold spT maxLen; decide) (by omega))
        unfold spT at HO
        go_wp2_with fail
        refine HO.out.mono ?_
        rintro e w1 ⟨g, rfl, hg1, hg2, hrow, hb1⟩
        have HS1 := Lib.hid (hS.out.later hb1)
        have HW1 := Lib.hid hrow
        have HCL := Lib.hid hS.out.names.len
        clear hrow hb1 HO hS hg1 hg2
        have H2 := Lib.hid (Pm.order_any A n c xs (some ⟨g, 0, none⟩) m (m + 3) cs w1 HS1.out.rows (Kd.row_front HW1.out HCL.out) (by omega) (by omega))
        go_wp2_with fail
        refine H2.out.mono ?_
        rintro e w2 ⟨v2, rfl, ho2, hb2⟩
        obtain ⟨A7, c7, hv2⟩ := ho2.value
        subst hv2
        have HS2 := Lib.hid (HS1.out.later hb2)
        have HW2 := Lib.hid (row_on HW1.out hb2)
        have HO2 := Lib.hid ho2.read
        clear ho2 hb2 H2 HS1 HW1
        have H3 := Lib.hid (Pm.rorder_any A n c xs C m cc cs w2 HS2.out.rows HS2.out.names (by omega) (by omega))
        go_wp2_with fail
        refine H3.out.mono ?_
        rintro e w3 ⟨v3, rfl, ho3, hb3⟩
        obtain ⟨A8, c8, hv3⟩ := ho3.value
        subst hv3
        have HS3 := Lib.hid (HS2.out.later hb3)
        have HW3 := Lib.hid (row_on HW2.out hb3)
        have HO3 := Lib.hid (And.intro (row_on HO2.out hb3) ho3.read)
        clear ho3 hb3 H3 HS2 HW2 HO2
        have H4 := Lib.hid (Pm.awake_any w3)
        go_wp2_with fail
        refine H4.out.mono ?_
        rintro e w4 ⟨rfl, hb4⟩
        have HS4 := Lib.hid (HS3.out.later hb4)
        have HW4 := Lib.hid (row_on HW3.out hb4)
        have HO4 := Lib.hid (And.intro (row_on HO3.out.1 hb4) (row_on HO3.out.2 hb4))
        clear hb4 H4 HS3 HW3 HO3
        obtain ⟨r, hr⟩ : ∃ r, Pm.promosB xs = r := ⟨_, rfl⟩
        have H5 := Lib.hid (Pm.all_any A n c xs w4 HS4.out.rows HS4.out.slights (by omega))
        rw [hr] at H5
        have HR := Lib.hid hr
        have e1 : (r == r) = true := by cases r <;> rfl
        clear hr
        go_wp2_with fail
        refine H5.out.mono ?_
        rintro e w5 ⟨rfl, hb5⟩
        have HS5 := Lib.hid (HS4.out.later hb5)
        have HW5 := Lib.hid (row_on HW4.out hb5)
        have HO5 := Lib.hid (And.intro (row_on HO4.out.1 hb5) (row_on HO4.out.2 hb5))
        clear hb5 H5 HS4 HW4 HO4
        have H6 := Lib.hid (Pm.rpromos_any A n c xs w5 HS5.out.rows HS5.out.slights (by omega))
        rw [HR.out] at H6
        go_wp2_with fail
        refine H6.out.mono ?_
        rintro e w6 ⟨rfl, hb6⟩
        have HS6 := Lib.hid (HS5.out.later hb6)
        have HW6 := Lib.hid (row_on HW5.out hb6)
        have HO6 := Lib.hid (And.intro (row_on HO5.out.1 hb6) (row_on HO5.out.2 hb6))
        clear hb6 H6 HS5 HW5 HO5
        obtain ⟨z, hz⟩ : ∃ z, Sc.namesB cs 4 = z := ⟨_, rfl⟩
        have H7 := Lib.hid (Pm.codes_any (some ⟨g, 0, none⟩) m (m + 3) cs _ w6 (Kd.row_front HW6.out HCL.out) (by omega))
        rw [hz] at H7
        have HZ := Lib.hid hz
        have e2 : (z == z) = true := by cases z <;> rfl
        clear hz
        go_wp2_with fail
        refine H7.out.mono ?_
        rintro e w7 ⟨rfl, rfl⟩
        clear H7
        have H8 := Lib.hid (Py.rcodes_any C m cc cs _ w7 HS6.out.names (by omega))
        rw [HZ.out] at H8
        go_wp2_with fail
        refine H8.out.mono ?_
        rintro e w8 ⟨rfl, hd8⟩
        have hb8 : Below w7.heap.size w7 w8 := by obtain ⟨d, rfl⟩ := hd8; exact Qu.below_draws (Below.refl _ _) d
        have HS8 := Lib.hid (HS6.out.later hb8)
        have HW8 := Lib.hid (row_on HW6.out hb8)
        have HO8 := Lib.hid (And.intro (row_on HO6.out.1 hb8) (row_on HO6.out.2 hb8))
        clear hb8 hd8 H8 HS6 HW6 HO6
        have hln := Pm.order_len xs cs n
        have H9 := Lib.hid (Hp.plain_int A7 A8 _ _ c7 c8 _ _ _ w8 HO8.out.1 HO8.out.2 (fun b hb => hb) (by omega))
        rw [ints_same] at H9
        go_wp2_with fail
        refine H9.out.mono ?_
        rintro e w9 ⟨rfl, hb9⟩
        have HS9 := Lib.hid (HS8.out.later hb9)
        have HW9 := Lib.hid (row_on HW8.out hb9)
        clear hb9 H9 HS8 HW8 HO8
        have H10 := Lib.hid (Hp.kept_str (some ⟨g, 0, none⟩) C m cc cs spT _ w9 HW9.out HS9.out.names (fun b hb => hb) (by omega))
        unfold spT at H10
        go_wp2_with fail
        refine H10.out.mono ?_
        rintro e w10 ⟨rfl, hb10⟩
        have HB10 := Lib.hid (HS9.out.later hb10).below
        clear hb10 H10 HS9 HW9
        go_wp2
        go_ret
        exact ⟨rfl, HB10.out⟩

set_option maxRecDepth 100000 in
theorem lifted (os : Os) (started : os.Started) (H : Type) (enc : TypeId × Value → H) :
    ReturnsInHanded {} Try.checked os 5 .any (Rows.promoOrdersSpec.pre6 enc Try.prog Try.f5 Rows.promoOrdersRow.domain false) (Rows.promoOrdersSpec.post enc Try.prog Try.f5 false true false false) := by
  refine returnsInHanded_of_change (C := Try.checked) own started (by kernel_rfl) Try.func5
    (ChangeSpec.witness6 (enc := enc) (C := Try.checked) false ⟨#[], #[.slice none 0 0, .slice none 0 0, .bool false], []⟩ 8 (by kernel_rfl) (by kernel_rfl) (by kernel_rfl) (by kernel_rfl)) ?_
  intro W base args ds gs before hval0 hW hcnd _
  have hval : ∀ (j : Nat) t v, Try.f5.params[j]? = some t → args[j]? = some v → Value.okWide Try.prog W .any base t v := hval0
  have hW' := hW
  obtain ⟨p, q, hA0, hV, rfl, hfz, hnd⟩ := hW
  have hA : DataW.TrodAll enc Try.prog W 0 (fun _ => true) true Try.f5.params.toList args.toList ds p := hA0
  rw [Try.params5] at hA hval
  obtain ⟨v0, vs0, d0, ds0, p0, q0, hargs, rfl, rfl, h0, r0⟩ := trodAll_cons hA
  obtain ⟨v1, vs1, d1, ds1, p1, q1, rfl, rfl, rfl, h1, r1⟩ := trodAll_cons r0
  obtain ⟨v2, vs2, d2, ds2, p2, q2, rfl, rfl, rfl, h2, r2⟩ := trodAll_cons r1
  obtain ⟨rfl, rfl, rfl⟩ := trodAll_nil r2
  obtain rfl : args = #[v0, v1, v2] := by cases args; simp_all
  obtain ⟨A0, n0, c0, xs0, rfl, x0, y0⟩ := Kd.open_list Ap.reads_Prm Try.underlying39 (by decide) (hval 0 39 v0 rfl rfl) h0
  obtain ⟨A1, n1, c1, xs1, rfl, x1, y1⟩ := Kd.open_list (Kd.Reads.str Try.underlying9 (by kernel_rfl)) Try.underlying22 (by decide) (hval 1 22 v1 rfl rfl) h1
  obtain ⟨a2, rfl, _, _⟩ := open_bool Try.underlying4 (hval 2 4 v2 rfl rfl) h2
  refine (walk W A0 n0 c0 xs0 x0 y0 A1 n1 c1 xs1 x1 y1 a2).mono fun e W' ⟨he, hb⟩ => ?_
  subst he
  exact ⟨_, rfl, Hk.closeLaw (tb := 4) (by kernel_rfl) (by kernel_rfl) rfl rfl rfl Try.underlying4 hW' hb⟩

theorem over : Rows.promoOrdersRow.holds Try.pinned (OpenSpec.ofChange Rows.promoOrdersSpec) :=
  OpenClaim.holds_of_wide 5 Try.f5 rfl rfl rfl rfl rfl rfl rfl ⟨rfl, rfl, rfl, rfl, rfl⟩ rfl rfl rfl rfl rfl (by kernel_rfl) Try.func5 (by kernel_rfl)
    (of_decide_eq_true (by kernel_rfl)) (by unfold Func.isWrapper; first | (rw [if_pos (by decide +kernel)]; kernel_rfl) | (rw [if_neg (by decide +kernel)]; exact ⟨rfl, rfl⟩))
    (fun os started H enc _ => lifted os started H enc)

/-- The statement. -/
theorem proved : Rows.PromoOrdersSaid :=
  over
end Go.Proofs.Ytgimcleeamlgcaa.promoOrders
