/- P14.1, P14.2: whether any lines may be, by any items, or why not; what they cost, and their units; nothing is turned; for every slice of items and slice of lines. No conditions. -/
import Derived.Test.YtdmpnkhgcggepaaBkK
import Derived.Test.YtdmpnkhgcggepaaBkL
import Derived.Test.YtdmpnkhgcggepaaBa
set_option maxRecDepth 100000
namespace Go.Proofs.Ytdmpnkhgcggepaa.basketRaw
open Go.ChangeShapes Go.WideShapes Go.ChangeAt Go.RowKit
open It (Itm kItem row_item item_rep)
open Ap (Lin Unt kLin kUnt row_Lin row_Unt)
open Kd (Kind Row Own Cells Fit Agree eqL)
open Bk
set_option maxRecDepth 100000
set_option linter.unusedVariables false

theorem own : ownKnob Try.prog.godebug = none := by kernel_rfl

set_option maxHeartbeats 4000000 in
theorem walk (w : World) (A : Option Addr) (n c : Nat) (its : List Itm) (hrI : Row kItem w (· < w.heap.size) A n its) (hfI : Fit A n c) (B : Option Addr) (m d : Nat) (xs : List Lin) (hrL : Row kLin w (· < w.heap.size) B m xs) (hfL : Fit B m d) :
    Calls Try.prog 3 #[.slice A n c, .slice B m d] w fun e w' => e = .returned (.bool true) ∧ Below w.heap.size w w' := by
  have HA := Lib.hid (awake_any w)
  by_cases h40 : 40 < n
  · have i1 : (40 : Int) < (n : Int) := by omega
    clear hrI hfI hrL hfL
    go_enter Try.func3, Try.ntmps3
    go_wp2_with fail
    refine HA.out.mono ?_
    rintro e w1 ⟨rfl, hb⟩
    have HB := Lib.hid hb
    clear hb
    go_wp2
    go_ret
    exact ⟨rfl, HB.out⟩
  have i1 : ¬ (40 : Int) < (n : Int) := by omega
  by_cases g40 : 40 < m
  · have i2 : (40 : Int) < (m : Int) := by omega
    clear hrI hfI hrL hfL
    go_enter Try.func3, Try.ntmps3
    go_wp2_with fail
    refine HA.out.mono ?_
    rintro e w1 ⟨rfl, hb⟩
    have HB := Lib.hid hb
    clear hb
    go_wp2
    go_ret
    exact ⟨rfl, HB.out⟩
  have i2 : ¬ (40 : Int) < (m : Int) := by omega
  have hn : n ≤ 40 := by omega
  have hm : m ≤ 40 := by omega
  have HI := Lib.hid (At.mk (w := w) hrI (Below.refl _ _))
  have HL := Lib.hid (At.mk (w := w) hrL (Below.refl _ _))
  have HU := Lib.hid (units_told B m d xs _ w hrL (by omega))
  have HFi := Lib.hid (And.intro hfI hfL)
  clear hrI hfI hrL hfL HA h40 g40
  go_enter Try.func3, Try.ntmps3
  go_wp2_with fail
  refine HU.out.mono ?_
  rintro e w1 ⟨v, rfl, v0, v1, hb1⟩
  have HI1 := Lib.hid (HI.out.on hb1)
  have HL1 := Lib.hid (HL.out.on hb1)
  clear hb1 HU HI HL i1 i2
  by_cases h3 : 3000 ≤ v
  · have HA := Lib.hid (awake_any w1)
    go_wp2_with fail
    refine HA.out.mono ?_
    rintro e w2 ⟨rfl, hb⟩
    have HB := Lib.hid (HI1.out.on hb).below
    clear hb
    go_wp2
    go_ret
    exact ⟨rfl, HB.out⟩
  have HO := Lib.hid (Ap.Lin.own_any B m d xs spL w1 HL1.out.row HFi.out.2 spL_ok (by omega))
  unfold spL at HO
  go_wp2_with fail
  refine HO.out.mono ?_
  rintro e w2 ⟨g, rfl, _, _, hrow, hb2⟩
  have HI2 := Lib.hid (HI1.out.on hb2)
  have HL2 := Lib.hid (HL1.out.on hb2)
  have HS2 := Lib.hid (At.mk (w := w) hrow HL2.out.below)
  have HO2 := Lib.hid (It.own_any A n c its spI w2 HI2.out.row HFi.out.1 spI_ok (by omega))
  unfold spI at HO2
  clear hrow hb2 HO HI1 HL1 v0 v1 h3
  go_wp2_with fail
  refine HO2.out.mono ?_
  rintro e w3 ⟨g2, rfl, _, _, hrow, hb3⟩
  have HI3 := Lib.hid (HI2.out.on hb3)
  have HL3 := Lib.hid (HL2.out.on hb3)
  have HS3 := Lib.hid (HS2.out.on hb3)
  have HT3 := Lib.hid (At.mk (w := w) hrow HL3.out.below)
  have HA := Lib.hid (awake_any w3)
  clear hrow hb3 HO2 HI2 HL2 HS2
  go_wp2_with fail
  refine HA.out.mono ?_
  rintro e w4 ⟨rfl, hb4⟩
  have HI4 := Lib.hid (HI3.out.on hb4)
  have HL4 := Lib.hid (HL3.out.on hb4)
  have HS4 := Lib.hid (HS3.out.on hb4)
  have HT4 := Lib.hid (HT3.out.on hb4)
  have HC := Lib.hid (check_any (some ⟨g2, 0, none⟩) n (n + 3) its (some ⟨g, 0, none⟩) m (m + 3) xs w4 (Kd.row_front HT4.out.row HI4.out.row.len) (by omega) (by omega) (Kd.row_front HS4.out.row HL4.out.row.len) (by omega))
  obtain ⟨z, hz⟩ : ∃ z, checkE its xs = z := ⟨_, rfl⟩
  rw [hz] at HC
  clear hb4 HA HI3 HL3 HS3 HT3
  go_wp2_with fail
  refine HC.out.mono ?_
  rintro e w5 ⟨rfl, hb5⟩
  have HI5 := Lib.hid (HI4.out.on hb5)
  have HL5 := Lib.hid (HL4.out.on hb5)
  have HS5 := Lib.hid (HS4.out.on hb5)
  have HT5 := Lib.hid (HT4.out.on hb5)
  have HC := Lib.hid (rcheck_any A n c its _ B m d xs _ w5 HI5.out.row (by omega) HL5.out.row (by omega))
  rw [hz] at HC
  have e1 : (z == z) = true := beq_self_eq_true z
  clear hb5 hz HI4 HL4 HS4 HT4
  go_wp2_with fail
  refine HC.out.mono ?_
  rintro e w6 ⟨rfl, hd⟩
  have hb6 := hd.below w5.heap.size
  have HI6 := Lib.hid (HI5.out.on hb6)
  have HL6 := Lib.hid (HL5.out.on hb6)
  have HS6 := Lib.hid (HS5.out.on hb6)
  have HT6 := Lib.hid (HT5.out.on hb6)
  have HC := Lib.hid (gross_any (some ⟨g, 0, none⟩) m (m + 3) xs w6 (Kd.row_front HS6.out.row HL6.out.row.len) (by omega))
  obtain ⟨y, hy⟩ : ∃ y, grossN xs = y := ⟨_, rfl⟩
  rw [hy] at HC
  clear hd hb6 HI5 HL5 HS5 HT5
  go_wp2_with fail
  refine HC.out.mono ?_
  rintro e w7 ⟨rfl, hb7⟩
  have HI7 := Lib.hid (HI6.out.on hb7)
  have HL7 := Lib.hid (HL6.out.on hb7)
  have HS7 := Lib.hid (HS6.out.on hb7)
  have HT7 := Lib.hid (HT6.out.on hb7)
  have HC := Lib.hid (rgross_any B m d xs _ w7 HL7.out.row (by omega))
  rw [hy] at HC
  have e2 : (y == y) = true := beq_self_eq_true y
  clear hb7 hy HI6 HL6 HS6 HT6
  go_wp2_with fail
  refine HC.out.mono ?_
  rintro e w8 ⟨rfl, hd⟩
  have hb8 := hd.below w7.heap.size
  have HI8 := Lib.hid (HI7.out.on hb8)
  have HL8 := Lib.hid (HL7.out.on hb8)
  have HS8 := Lib.hid (HS7.out.on hb8)
  have HT8 := Lib.hid (HT7.out.on hb8)
  have HC := Lib.hid (units_any (some ⟨g, 0, none⟩) m (m + 3) xs w8 (Kd.row_front HS8.out.row HL8.out.row.len) (by omega))
  obtain ⟨us, hus⟩ : ∃ us, unitsL xs = us := ⟨_, rfl⟩
  have hul := unitsL_length xs
  rw [hus] at HC hul
  have HUs := Lib.hid (And.intro hus hul)
  obtain ⟨L, hL⟩ : ∃ L, us.length = L := ⟨_, rfl⟩
  clear hd hb8 HI7 HL7 HS7 HT7 hus hul
  go_wp2_with fail
  refine HC.out.mono ?_
  rintro e w9 ⟨A9, c9, rfl, ho9, hb9⟩
  rw [hL] at ho9
  simp only [hL]
  have HI9 := Lib.hid (HI8.out.on hb9)
  have HL9 := Lib.hid (HL8.out.on hb9)
  have HS9 := Lib.hid (HS8.out.on hb9)
  have HT9 := Lib.hid (HT8.out.on hb9)
  have HP9 := Lib.hid (own_at ho9 hb9 HI8.out.below)
  have HC := Lib.hid (runits_any B m d xs w9 HL9.out.row (by omega))
  rw [HUs.out.1] at HC
  clear ho9 hb9 HI8 HL8 HS8 HT8
  go_wp2_with fail
  refine HC.out.mono ?_
  rintro e wa ⟨Aa, ca, rfl, hoa, hba⟩
  rw [hL] at hoa
  simp only [hL]
  have HIa := Lib.hid (HI9.out.on hba)
  have HLa := Lib.hid (HL9.out.on hba)
  have HSa := Lib.hid (HS9.out.on hba)
  have HTa := Lib.hid (HT9.out.on hba)
  have HPa := Lib.hid (HP9.out.on hba)
  have HC := Lib.hid (Ap.Unt.plain_any A9 Aa L L c9 ca us us _ wa HPa.out.row (own_at hoa hba HI9.out.below).row (fun _ h => h) (by have := HUs.out.2; omega))
  rw [Kd.eqL_refl Ap.Unt.sameB_refl] at HC
  clear hoa hba HI9 HL9 HS9 HT9 HP9
  go_wp2_with fail
  refine HC.out.mono ?_
  rintro e wb ⟨rfl, hbb⟩
  have HIb := Lib.hid (HIa.out.on hbb)
  have HLb := Lib.hid (HLa.out.on hbb)
  have HSb := Lib.hid (HSa.out.on hbb)
  have HTb := Lib.hid (HTa.out.on hbb)
  have HC := Lib.hid (items_any (some ⟨g2, 0, none⟩) n (n + 3) its (some ⟨g, 0, none⟩) m (m + 3) xs wb (Kd.row_front HTb.out.row HIb.out.row.len) (by omega) (by omega) (Kd.row_front HSb.out.row HLb.out.row.len) (by omega))
  obtain ⟨ts, hts⟩ : ∃ ts, gotL its xs = ts := ⟨_, rfl⟩
  have htl := gotL_length its xs
  rw [hts] at HC htl
  have HTs := Lib.hid (And.intro hts (Nat.le_trans htl (by rw [HLb.out.row.len]; exact hm)))
  obtain ⟨M, hM⟩ : ∃ M, ts.length = M := ⟨_, rfl⟩
  clear hbb HIa HLa HSa HTa HPa hts htl
  go_wp2_with fail
  refine HC.out.mono ?_
  rintro e wc ⟨Ac, cc, rfl, hoc, hbc⟩
  rw [hM] at hoc
  simp only [hM]
  have HIc := Lib.hid (HIb.out.on hbc)
  have HLc := Lib.hid (HLb.out.on hbc)
  have HSc := Lib.hid (HSb.out.on hbc)
  have HTc := Lib.hid (HTb.out.on hbc)
  have HPc := Lib.hid (own_at hoc hbc HIb.out.below)
  have HC := Lib.hid (ritems_any A n c its B m d xs wc HIc.out.row (by omega) HLc.out.row (by omega))
  rw [HTs.out.1] at HC
  clear hoc hbc HIb HLb HSb HTb
  go_wp2_with fail
  refine HC.out.mono ?_
  rintro e wd ⟨Ad, cd, rfl, hod, hbd⟩
  rw [hM] at hod
  simp only [hM]
  have HId := Lib.hid (HIc.out.on hbd)
  have HLd := Lib.hid (HLc.out.on hbd)
  have HSd := Lib.hid (HSc.out.on hbd)
  have HTd := Lib.hid (HTc.out.on hbd)
  have HPd := Lib.hid (HPc.out.on hbd)
  have HC := Lib.hid (It.plain_any Ac Ad M M cc cd ts ts _ wd HPd.out.row (own_at hod hbd HIc.out.below).row (fun _ h => h) (by have := HTs.out.2; omega))
  rw [Kd.eqL_refl It.sameB_refl] at HC
  clear hod hbd HIc HLc HSc HTc HPc
  go_wp2_with fail
  refine HC.out.mono ?_
  rintro e we ⟨rfl, hbe⟩
  have HIe := Lib.hid (HId.out.on hbe)
  have HLe := Lib.hid (HLd.out.on hbe)
  have HSe := Lib.hid (HSd.out.on hbe)
  have HTe := Lib.hid (HTd.out.on hbe)
  have HC := Lib.hid (Ap.Lin.kept_any (some ⟨g, 0, none⟩) B m d xs spL _ we HSe.out.row HLe.out.row (fun _ h => h) (by omega))
  unfold spL at HC
  clear hbe HId HLd HSd HTd HPd
  go_wp2_with fail
  refine HC.out.mono ?_
  rintro e wf ⟨rfl, hbf⟩
  have HIf := Lib.hid (HIe.out.on hbf)
  have HTf := Lib.hid (HTe.out.on hbf)
  have HC := Lib.hid (It.kept_any (some ⟨g2, 0, none⟩) A n c its spI _ wf HTf.out.row HIf.out.row (fun _ h => h) (by omega))
  unfold spI at HC
  clear hbf HIe HLe HSe HTe
  go_wp2_with fail
  refine HC.out.mono ?_
  rintro e wg ⟨rfl, hbg⟩
  have HB := Lib.hid (HIf.out.on hbg).below
  clear hbg HC
  go_wp2
  go_ret
  exact ⟨rfl, HB.out⟩

set_option maxRecDepth 100000 in
theorem lifted (os : Os) (started : os.Started) (H : Type) (enc : TypeId × Value → H) :
    ReturnsInHanded {} Try.checked os 3 .any (Rows.basketRawSpec.pre6 enc Try.prog Try.f3 Rows.basketRawRow.domain false) (Rows.basketRawSpec.post enc Try.prog Try.f3 false true false false) := by
  refine returnsInHanded_of_change (C := Try.checked) own started (by kernel_rfl) Try.func3
    (ChangeSpec.witness6 (enc := enc) (C := Try.checked) false ⟨#[], #[.slice none 0 0, .slice none 0 0], []⟩ 8 (by kernel_rfl) (by kernel_rfl) (by kernel_rfl) (by kernel_rfl)) ?_
  intro W base args ds gs before hval0 hW hcnd _
  have hval : ∀ (j : Nat) t v, Try.f3.params[j]? = some t → args[j]? = some v → Value.okWide Try.prog W .any base t v := hval0
  have hW' := hW
  obtain ⟨p, q, hA0, hV, rfl, hfz, hnd⟩ := hW
  have hA : DataW.TrodAll enc Try.prog W 0 (fun _ => true) true Try.f3.params.toList args.toList ds p := hA0
  rw [Try.params3] at hA hval
  obtain ⟨v0, vs0, d0, ds0, p0, q0, hargs, rfl, rfl, h0, r0⟩ := trodAll_cons hA
  obtain ⟨v1, vs1, d1, ds1, p1, q1, rfl, rfl, rfl, h1, r1⟩ := trodAll_cons r0
  obtain ⟨rfl, rfl, rfl⟩ := trodAll_nil r1
  obtain rfl : args = #[v0, v1] := by cases args; simp_all
  obtain ⟨A0, n0, c0, xs0, rfl, x0, y0⟩ := Kd.open_list It.reads_item Try.underlying22 (by decide) (hval 0 22 v0 rfl rfl) h0
  obtain ⟨A1, n1, c1, xs1, rfl, x1, y1⟩ := Kd.open_list Ap.reads_Lin Try.underlying23 (by decide) (hval 1 23 v1 rfl rfl) h1
  refine (walk W A0 n0 c0 xs0 x0 y0 A1 n1 c1 xs1 x1 y1).mono fun e W' ⟨he, hb⟩ => ?_
  subst he
  exact ⟨_, rfl, Hk.closeLaw (tb := 4) (by kernel_rfl) (by kernel_rfl) rfl rfl rfl Try.underlying4 hW' hb⟩

theorem over : Rows.basketRawRow.holds Try.pinned (OpenSpec.ofChange Rows.basketRawSpec) :=
  OpenClaim.holds_of_wide 3 Try.f3 rfl rfl rfl rfl rfl rfl rfl ⟨rfl, rfl, rfl, rfl, rfl⟩ rfl rfl rfl rfl rfl (by kernel_rfl) Try.func3 (by kernel_rfl)
    (of_decide_eq_true (by kernel_rfl)) (by unfold Func.isWrapper; first | (rw [if_pos (by decide +kernel)]; kernel_rfl) | (rw [if_neg (by decide +kernel)]; exact ⟨rfl, rfl⟩))
    (fun os started H enc _ => lifted os started H enc)

/-- The statement. -/
theorem proved : Rows.BasketRawSaid :=
  over
end Go.Proofs.Ytdmpnkhgcggepaa.basketRaw
