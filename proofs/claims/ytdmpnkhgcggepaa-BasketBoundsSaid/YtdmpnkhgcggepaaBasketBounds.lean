/- P14.1: so many lines, units, and so much money, and no more; for every int and int64. No conditions. -/
import Derived.Test.YtdmpnkhgcggepaaBkK
import Derived.Test.YtdmpnkhgcggepaaBkO
import Derived.Test.YtdmpnkhgcggepaaBa
set_option maxRecDepth 100000
namespace Go.Proofs.Ytdmpnkhgcggepaa.basketBounds
open Go.ChangeShapes Go.WideShapes Go.ChangeAt Go.RowKit
open It (Itm kItem row_item item_rep)
open Ap (Lin Unt kLin kUnt row_Lin row_Unt)
open Kd (Kind Row Own Cells Fit Agree eqL)
open Bk
set_option maxRecDepth 100000
set_option linter.unusedVariables false

theorem own : ownKnob Try.prog.godebug = none := by kernel_rfl

set_option maxHeartbeats 4000000 in
theorem walk (w : World) (a0 : Int) (w0 : (Lit.int .i64 a0).wf = true) (a1 : Int) (w1 : (Lit.int .i64 a1).wf = true) :
    Calls Try.prog 6 #[.int .i64 a0, .int .i64 a1] w fun e w' => e = .returned (.bool true) ∧ Below w.heap.size w w' := by
  obtain ⟨t, ht⟩ : ∃ t, Py.modN a0 3 = t := ⟨_, rfl⟩
  have ht3 := Py.modN_lt a0 3 (by omega)
  have HM := Lib.hid (fun W => Py.mod_any a0 3 W (by omega) (by omega))
  obtain ⟨r, hr⟩ : ∃ r, Py.modN a1 1000000000 = r := ⟨_, rfl⟩
  have hr9 := Py.modN_lt a1 1000000000 (by omega)
  have HR := Lib.hid (fun W => Py.mod64_any a1 1000000000 W (by omega) (by omega))
  rw [ht] at ht3
  rw [hr] at hr9
  simp only [ht] at HM
  simp only [hr] at HR
  obtain ⟨K, Q, Q1, Q2, p, D, m, m1, P1, P2, hN⟩ := nums_of t r (by omega) (by omega)
  have HN := Lib.hid hN
  have qK := hN.wK
  have hK1 : K ≤ 1001 := by have h1 := hN.bK; clear hN; omega
  have HT3 := Lib.hid ht3
  obtain ⟨W1, hW1⟩ : ∃ W1, w.alloc (.cells #[.string ⟨#[97]⟩, .string ⟨#[120]⟩, .int .i64 0, .bool false] 31) = W1 := ⟨_, rfl⟩
  have hb1 : Below w.heap.size w W1 := by rw [← hW1]; exact (Below.refl _ _).alloc (Nat.le_refl _) _
  have HX1 := Lib.hid (At.mk (w := w) (one_item (by rw [← hW1]; exact Qu.Blk.new w _ _ : Qu.Blk W1 w.heap.size 31 _)) hb1)
  have hs1 : W1.heap.size = w.heap.size + 1 := by rw [← hW1]; simp
  obtain ⟨M, hM1, hM2⟩ := made_lines K (by omega) W1
  obtain ⟨g, hg⟩ : ∃ g, W1.heap.size = g := ⟨_, rfl⟩
  have HW0 : Hid (Wr W1 (W1.alloc (.cells M 28)) g K 0) := Lib.hid ⟨by rw [← hg]; exact hM2, (Below.refl _ _).alloc (Nat.le_refl _) _⟩
  rw [hg] at hM1
  have hw1 := Lib.hid hW1
  have hgg : w.heap.size + 1 = g := by omega
  clear ht hr ht3 hr9 w0 w1 hb1 hs1 hM2 hg hW1 hgg hN
  go_enter Try.func6, Try.ntmps6
  go_upto_region 2 with (fail)
  rw [hw1.out]
  clear hw1
  go_wp2_with fail
  refine (HM.out _).mono ?_
  rintro e w2 ⟨rfl, hw2⟩
  obtain rfl := hw2.symm
  go_wp2
  clear hM1
  go_loopw [26] (fun s26 wr => ∃ i : Nat, s26 = .int .i64 i ∧ i ≤ K ∧ Hid (Wr W1 wr g K i)) (fun s26 _ => K - (intOf s26).toNat)
  case atStart => exact ⟨0, rfl, by omega, HW0⟩
  case round =>
    clear HW0
    obtain ⟨i, rfl, hi, HW⟩ := hrel
    have ii : (0 : Int) ≤ (i : Int) := by omega
    by_cases hlt : i < K
    · have k1 : (i : Int) < (K : Int) := by omega
      obtain ⟨hN, ⟨u, hu⟩, hz⟩ := HW.out.next hlt
      have HN := Lib.hid hN
      clear hN
      go_wp2
      go_roundw
      case rel => exact ⟨i + 1, by go_num, by omega, HN⟩
      case measure => simp [intOf]; omega
    · have k1 : ¬ (i : Int) < (K : Int) := by omega
      obtain rfl : i = K := by omega
      have ho := HW.out.own
      rw [Nat.sub_self, List.replicate_zero, List.append_nil] at ho
      have HX2 := Lib.hid (HX1.out.on HW.out.below)
      have HL2 := Lib.hid (At.mk (w := w) ho.read HX2.out.below)
      have HC := Lib.hid (check_any (some ⟨w.heap.size, 0, none⟩) 1 1 oneI (some ⟨g, 0, none⟩) i i _ wr HX2.out.row (by omega) (by omega) HL2.out.row (by omega))
      obtain ⟨z1, hz1⟩ : ∃ z1 : Int, (if 1000 < i then 6 else 0) = z1 := ⟨_, rfl⟩
      obtain ⟨z2, hz2⟩ : ∃ z2 : Int, (if 100000 < Q then 5 else 0) = z2 := ⟨_, rfl⟩
      obtain ⟨z4, hz4⟩ : ∃ z4 : Int, (if 10000000000000 < P2 then 5 else 0) = z4 := ⟨_, rfl⟩
      rw [HN.out.c1, hz1] at HC
      have HC2 : Hid (checkE oneI [aL (Q1 : Int) 0, aL (Q2 : Int) 0] = z2) := Lib.hid (HN.out.c2.trans hz2)
      have HC4 : Hid (checkE oneI [aL (m1 : Int) (p : Int)] = z4) := Lib.hid (HN.out.c4.trans hz4)
      have HNb : Hid ((-9223372036854775808 ≤ (Q1 : Int) ∧ (Q1 : Int) ≤ 9223372036854775807) ∧ (-9223372036854775808 ≤ (Q2 : Int) ∧ (Q2 : Int) ≤ 9223372036854775807) ∧ (-9223372036854775808 ≤ (m : Int) ∧ (m : Int) ≤ 9223372036854775807) ∧ (-9223372036854775808 ≤ (m1 : Int) ∧ (m1 : Int) ≤ 9223372036854775807) ∧ -9223372036854775808 ≤ (p : Int) ∧ (p : Int) ≤ 9223372036854775807) := Lib.hid (by
        have h1 := HN.out.b1
        have h2 := HN.out.b2
        have h3 := HN.out.bm
        have h4 := HN.out.bm1
        have h5 := HN.out.bp
        clear HC hz1 hz2 hz4 hlt
        omega)
      have HZ : Hid ((z1 = 0 ∧ z2 = 0 ∧ i ≤ 1000 ∧ Q ≤ 100000) ∨ (z1 = 6 ∧ z2 = 5 ∧ 1000 < i ∧ 100000 < Q)) := Lib.hid (by
        have h1 := HN.out.bK
        have h2 := HN.out.bQ
        have h3 := HT3.out
        rw [← hz1, ← hz2]
        by_cases h : 1000 < i
        · rw [if_pos h, if_pos (by omega)]; exact .inr ⟨rfl, rfl, h, by omega⟩
        · rw [if_neg h, if_neg (by omega)]; exact .inl ⟨rfl, rfl, by omega, by omega⟩)
      have HZ4 : Hid ((z4 = 0 ∧ ¬ 10000000000000 < P2) ∨ (z4 = 5 ∧ 10000000000000 < P2)) := Lib.hid (by
        rw [← hz4]
        by_cases h : 10000000000000 < P2
        · rw [if_pos h]; exact .inr ⟨rfl, h⟩
        · rw [if_neg h]; exact .inl ⟨rfl, h⟩)
      clear hz1 hz2 hz4 ho HW hlt HX1 qK
      go_wp2_with fail
      refine HC.out.mono ?_
      rintro e w3 ⟨rfl, hb3⟩
      have HX3 := Lib.hid (HX2.out.on hb3)
      clear hb3 HC HX2 HL2 k1
      go_wp2_with fail
      refine (HM.out _).mono ?_
      rintro e w3' ⟨rfl, hw2⟩
      obtain rfl := hw2.symm
      obtain ⟨W4, hW4⟩ : ∃ W4, w3.alloc (.cells #[.string ⟨#[97]⟩, .int .i64 (Q1 : Int), .int .i64 0, .string ⟨#[97]⟩, .int .i64 (Q2 : Int), .int .i64 0] 28) = W4 := ⟨_, rfl⟩
      obtain ⟨hr4, hb4⟩ := new_two (Q1 : Int) (Q2 : Int) HNb.out.1 HNb.out.2.1 hW4
      have HX4 := Lib.hid (HX3.out.on hb4)
      have HC := Lib.hid (check_any (some ⟨w.heap.size, 0, none⟩) 1 1 oneI (some ⟨w3.heap.size, 0, none⟩) 2 2 _ W4 HX4.out.row (by omega) (by omega) hr4 (by omega))
      rw [HC2.out] at HC
      have qQ := HN.out.wQ
      have qQ1 := HN.out.wQ1
      have qQ1' := HN.out.tQ1
      have qQ2 := HN.out.wQ2
      have rQ1 := HN.out.rQ1
      have rQ2 := HN.out.rQ2
      clear hr4 hb4 HX3 HM
      go_wp2_with fail
      try rw [hW4]
      clear hW4 qQ qQ1 qQ1' qQ2 rQ1 rQ2
      refine HC.out.mono ?_
      rintro e w5 ⟨rfl, hb5⟩
      have HX5 := Lib.hid (HX4.out.on hb5)
      clear hb5 HC HX4
      go_wp2_with fail
      refine (HR.out _).mono ?_
      rintro e w5' ⟨rfl, hw2⟩
      obtain rfl := hw2.symm
      have qp := HN.out.wp
      have qD := HN.out.wD
      have qD' := HN.out.tD
      have e1 := HN.out.e1
      have e2 := HN.out.e2
      have rD := HN.out.rD
      have p0 := HN.out.p0
      obtain ⟨W6, hW6⟩ : ∃ W6, w5.alloc (.cells #[.string ⟨#[97]⟩, .int .i64 (m : Int), .int .i64 (p : Int)] 28) = W6 := ⟨_, rfl⟩
      obtain ⟨hr6, hb6⟩ := new_line ⟨#[97]⟩ (m : Int) (p : Int) (by decide) HNb.out.2.2.1 HNb.out.2.2.2.2 hW6
      have HX6 := Lib.hid (HX5.out.on hb6)
      have HC := Lib.hid (check_any (some ⟨w.heap.size, 0, none⟩) 1 1 oneI (some ⟨w5.heap.size, 0, none⟩) 1 1 [aL (m : Int) (p : Int)] W6 HX6.out.row (by omega) (by omega) hr6 (by omega))
      rw [HN.out.c3] at HC
      clear hr6 hb6 HX5 HR
      go_wp2_with fail
      try rw [hW6]
      clear hW6 qp qD qD' e1 e2 rD p0
      refine HC.out.mono ?_
      rintro e w7 ⟨rfl, hb7⟩
      have HX7 := Lib.hid (HX6.out.on hb7)
      clear hb7 HC HX6
      have qm := HN.out.wm
      have qP1 := HN.out.wP1
      have qP2 := HN.out.wP2
      obtain ⟨W8, hW8⟩ : ∃ W8, w7.alloc (.cells #[.string ⟨#[97]⟩, .int .i64 (m1 : Int), .int .i64 (p : Int)] 28) = W8 := ⟨_, rfl⟩
      obtain ⟨hr8, hb8⟩ := new_line ⟨#[97]⟩ (m1 : Int) (p : Int) (by decide) HNb.out.2.2.2.1 HNb.out.2.2.2.2 hW8
      have HX8 := Lib.hid (HX7.out.on hb8)
      have HC := Lib.hid (check_any (some ⟨w.heap.size, 0, none⟩) 1 1 oneI (some ⟨w7.heap.size, 0, none⟩) 1 1 [aL (m1 : Int) (p : Int)] W8 HX8.out.row (by omega) (by omega) hr8 (by omega))
      rw [HC4.out] at HC
      clear hr8 hb8 HX7
      go_wp2_with fail
      try rw [hW8]
      clear hW8
      refine HC.out.mono ?_
      rintro e w9 ⟨rfl, hb9⟩
      have HB9 := Lib.hid (HX8.out.on hb9).below
      have HA := Lib.hid (awake_any w9)
      clear hb9 HC HX8
      go_upto_region 17 with (fail)
      rcases HZ.out with ⟨hz1, hz2, hk1, hk2⟩ | ⟨hz1, hz2, hk1, hk2⟩ <;> rcases HZ4.out with ⟨hz4, hP⟩ | ⟨hz4, hP⟩
      all_goals
        subst hz1 hz2 hz4
      case' inl.inl =>
        have j1 : (i : Int) ≤ 1000 := by omega
        have j2 : (Q : Int) ≤ 100000 := by omega
        have j3 : ¬ (10000000000000 : Int) < (P2 : Int) := by omega
        have d1 : decide ((i : Int) ≤ 1000) = true := decide_eq_true j1
        have d2 : decide ((Q : Int) ≤ 100000) = true := decide_eq_true j2
        have d3 : decide ((10000000000000 : Int) < (P2 : Int)) = false := decide_eq_false j3
      case' inl.inr =>
        have j1 : (i : Int) ≤ 1000 := by omega
        have j2 : (Q : Int) ≤ 100000 := by omega
        have j3 : (10000000000000 : Int) < (P2 : Int) := by omega
        have d1 : decide ((i : Int) ≤ 1000) = true := decide_eq_true j1
        have d2 : decide ((Q : Int) ≤ 100000) = true := decide_eq_true j2
        have d3 : decide ((10000000000000 : Int) < (P2 : Int)) = true := decide_eq_true j3
      case' inr.inl =>
        have j1 : ¬ (i : Int) ≤ 1000 := by omega
        have j2 : ¬ (Q : Int) ≤ 100000 := by omega
        have j3 : ¬ (10000000000000 : Int) < (P2 : Int) := by omega
        have d1 : decide ((i : Int) ≤ 1000) = false := decide_eq_false j1
        have d2 : decide ((Q : Int) ≤ 100000) = false := decide_eq_false j2
        have d3 : decide ((10000000000000 : Int) < (P2 : Int)) = false := decide_eq_false j3
      case' inr.inr =>
        have j1 : ¬ (i : Int) ≤ 1000 := by omega
        have j2 : ¬ (Q : Int) ≤ 100000 := by omega
        have j3 : (10000000000000 : Int) < (P2 : Int) := by omega
        have d1 : decide ((i : Int) ≤ 1000) = false := decide_eq_false j1
        have d2 : decide ((Q : Int) ≤ 100000) = false := decide_eq_false j2
        have d3 : decide ((10000000000000 : Int) < (P2 : Int)) = true := decide_eq_true j3
      all_goals
        clear hk1 hk2 hP qm qP2
        go_wp2_with fail
        refine HA.out.mono ?_
        rintro e wa ⟨rfl, hba⟩
        have HBa := Lib.hid (HB9.out.trans (hba.mono HB9.out.size))
        obtain ⟨Wb, hWb⟩ : ∃ Wb, wa.alloc (.cells #[.string ⟨#[113]⟩, .int .i64 (m : Int), .int .i64 (p : Int)] 28) = Wb := ⟨_, rfl⟩
        obtain ⟨hrb, hbb⟩ := new_line ⟨#[113]⟩ (m : Int) (p : Int) (by decide) HNb.out.2.2.1 HNb.out.2.2.2.2 hWb
        have HC := Lib.hid (gross_any (some ⟨wa.heap.size, 0, none⟩) 1 1 _ Wb hrb (by omega))
        rw [HN.out.c5] at HC
        have HBb := Lib.hid (HBa.out.trans (hbb.mono HBa.out.size))
        have e9 : ((P1 : Int) == (P1 : Int)) = true := beq_self_eq_true _
        clear hba hrb hbb
        go_wp2_with fail
        try rw [hWb]
        clear hWb
        refine HC.out.mono ?_
        rintro e wc ⟨rfl, hbc⟩
        have HB := Lib.hid (HBb.out.trans (hbc.mono HBb.out.size))
        clear hbc
        go_wp2
        go_ret
        exact ⟨rfl, HB.out⟩

set_option maxRecDepth 100000 in
theorem lifted (os : Os) (started : os.Started) (H : Type) (enc : TypeId × Value → H) :
    ReturnsInHanded {} Try.checked os 6 .any (Rows.basketBoundsSpec.pre6 enc Try.prog Try.f6 Rows.basketBoundsRow.domain false) (Rows.basketBoundsSpec.post enc Try.prog Try.f6 false true false false) := by
  refine returnsInHanded_of_change (C := Try.checked) own started (by kernel_rfl) Try.func6
    (ChangeSpec.witness6 (enc := enc) (C := Try.checked) false ⟨#[], #[.int .i64 0, .int .i64 0], []⟩ 8 (by kernel_rfl) (by kernel_rfl) (by kernel_rfl) (by kernel_rfl)) ?_
  intro W base args ds gs before hval0 hW hcnd _
  have hval : ∀ (j : Nat) t v, Try.f6.params[j]? = some t → args[j]? = some v → Value.okWide Try.prog W .any base t v := hval0
  have hW' := hW
  obtain ⟨p, q, hA0, hV, rfl, hfz, hnd⟩ := hW
  have hA : DataW.TrodAll enc Try.prog W 0 (fun _ => true) true Try.f6.params.toList args.toList ds p := hA0
  rw [Try.params6] at hA hval
  obtain ⟨v0, vs0, d0, ds0, p0, q0, hargs, rfl, rfl, h0, r0⟩ := trodAll_cons hA
  obtain ⟨v1, vs1, d1, ds1, p1, q1, rfl, rfl, rfl, h1, r1⟩ := trodAll_cons r0
  obtain ⟨rfl, rfl, rfl⟩ := trodAll_nil r1
  obtain rfl : args = #[v0, v1] := by cases args; simp_all
  obtain ⟨a0, rfl, _, _, w0⟩ := open_int Try.underlying3 (hval 0 3 v0 rfl rfl) h0
  obtain ⟨a1, rfl, _, _, w1⟩ := open_int Try.underlying2 (hval 1 2 v1 rfl rfl) h1
  refine (walk W a0 w0 a1 w1).mono fun e W' ⟨he, hb⟩ => ?_
  subst he
  exact ⟨_, rfl, Hk.closeLaw (tb := 4) (by kernel_rfl) (by kernel_rfl) rfl rfl rfl Try.underlying4 hW' hb⟩

theorem over : Rows.basketBoundsRow.holds Try.pinned (OpenSpec.ofChange Rows.basketBoundsSpec) :=
  OpenClaim.holds_of_wide 6 Try.f6 rfl rfl rfl rfl rfl rfl rfl ⟨rfl, rfl, rfl, rfl, rfl⟩ rfl rfl rfl rfl rfl (by kernel_rfl) Try.func6 (by kernel_rfl)
    (of_decide_eq_true (by kernel_rfl)) (by unfold Func.isWrapper; first | (rw [if_pos (by decide +kernel)]; kernel_rfl) | (rw [if_neg (by decide +kernel)]; exact ⟨rfl, rfl⟩))
    (fun os started H enc _ => lifted os started H enc)

/-- The statement. -/
theorem proved : Rows.BasketBoundsSaid :=
  over
end Go.Proofs.Ytdmpnkhgcggepaa.basketBounds
