/- P14.1: what two baskets cost together is what each costs; their units stand one behind the other; for every two slices of lines. No conditions. -/
import Derived.Test.YtdmpnkhgcggepaaBkK
import Derived.Test.YtdmpnkhgcggepaaBkN
import Derived.Test.YtdmpnkhgcggepaaBa
set_option maxRecDepth 100000
namespace Go.Proofs.Ytdmpnkhgcggepaa.basketJoin
open Go.ChangeShapes Go.WideShapes Go.ChangeAt Go.RowKit
open It (Itm kItem row_item item_rep)
open Ap (Lin Unt kLin kUnt row_Lin row_Unt)
open Kd (Kind Row Own Cells Fit Agree eqL)
open Bk
set_option maxRecDepth 100000
set_option linter.unusedVariables false

theorem own : ownKnob Try.prog.godebug = none := by kernel_rfl

set_option maxHeartbeats 4000000 in
theorem walk (w : World) (A : Option Addr) (n c : Nat) (xs : List Lin) (hrA : Row kLin w (· < w.heap.size) A n xs) (hfA : Fit A n c) (B : Option Addr) (m d : Nat) (ys : List Lin) (hrB : Row kLin w (· < w.heap.size) B m ys) (hfB : Fit B m d) :
    Calls Try.prog 7 #[.slice A n c, .slice B m d] w fun e w' => e = .returned (.bool true) ∧ Below w.heap.size w w' := by
  have HA := Lib.hid (awake_any w)
  by_cases h40 : 40 < n
  · have i1 : (40 : Int) < (n : Int) := by omega
    clear hrA hfA hrB hfB
    go_enter Try.func7, Try.ntmps7
    go_wp2_with fail
    refine HA.out.mono ?_
    rintro e w1 ⟨rfl, hb⟩
    have HB := Lib.hid hb
    clear hb
    go_wp2
    go_ret
    exact ⟨rfl, HB.out⟩
  have i1 : ¬ (40 : Int) < (n : Int) := by omega
  by_cases g40 : 40 < m
  · have i2 : (40 : Int) < (m : Int) := by omega
    clear hrA hfA hrB hfB
    go_enter Try.func7, Try.ntmps7
    go_wp2_with fail
    refine HA.out.mono ?_
    rintro e w1 ⟨rfl, hb⟩
    have HB := Lib.hid hb
    clear hb
    go_wp2
    go_ret
    exact ⟨rfl, HB.out⟩
  have i2 : ¬ (40 : Int) < (m : Int) := by omega
  have hn : n ≤ 40 := by omega
  have hm : m ≤ 40 := by omega
  have HY := Lib.hid (At.mk (w := w) hrB (Below.refl _ _))
  have HLa := Lib.hid (lines_any A n c xs w hrA (by omega))
  obtain ⟨aa, has⟩ : ∃ ms, linesOf xs = ms := ⟨_, rfl⟩
  obtain ⟨bs, hbs⟩ : ∃ ms, linesOf ys = ms := ⟨_, rfl⟩
  have ha8 := linesOf_length xs
  have hb8 := linesOf_length ys
  have hMa := lines_may xs
  have hMb := lines_may ys
  have hMj := join_may xs ys
  rw [has] at ha8 hMa hMj HLa
  rw [hbs] at hb8 hMb hMj
  obtain ⟨N, hN⟩ : ∃ N, aa.length = N := ⟨_, rfl⟩
  obtain ⟨M, hM⟩ : ∃ M, bs.length = M := ⟨_, rfl⟩
  rw [hN] at ha8
  rw [hM] at hb8
  have HK := Lib.hid (And.intro hMa (And.intro hMb (And.intro hMj (And.intro hN (And.intro hM hbs)))))
  clear hrA hfA hrB hfB HA h40 g40 has hbs hMa hMb hMj hN hM
  go_enter Try.func7, Try.ntmps7
  go_wp2_with fail
  refine HLa.out.mono ?_
  rintro e w1 ⟨A1, c1, rfl, ho1, hb1⟩
  rw [HK.out.2.2.2.1] at ho1
  simp only [HK.out.2.2.2.1]
  have HY1 := Lib.hid (HY.out.on hb1)
  have HO1 := Lib.hid (And.intro ho1.read (And.intro hb1 ho1.fit))
  have HLb := Lib.hid (lines_any B m d ys w1 HY1.out.row (by omega))
  rw [HK.out.2.2.2.2.2] at HLb
  clear ho1 hb1 HLa HY i1 i2
  go_wp2_with fail
  refine HLb.out.mono ?_
  rintro e w2 ⟨A2, c2, rfl, ho2, hb2⟩
  rw [HK.out.2.2.2.2.1] at ho2
  simp only [HK.out.2.2.2.2.1]
  have HP2 := Lib.hid (At.mk (w := w) (row_on HO1.out.1 hb2) (HO1.out.2.1.trans (hb2.mono HO1.out.2.1.size)))
  have HR2 := Lib.hid (At.mk (w := w) ho2.read HP2.out.below)
  have HF := Lib.hid (And.intro HO1.out.2.2 ho2.fit)
  have hfa := HF.out.1.1
  have hfb := HF.out.2.1
  have HFa := Lib.hid hfa
  have HFb := Lib.hid hfb
  clear ho2 hb2 HLb HY1 HO1 hfa hfb
  go_wp2_with (first
    | (at_builtin; refine Kd.wpList_join (F := fun _ => False) (G := (· < w2.heap.size)) (B := w2.heap.size) (n := 0) (m := N) (c := c1) (v := .slice none 0 0) (xs := []) (ys := aa) (A := A1) row_lin_t rfl _ _ rfl rfl rfl (Kd.Own.nil _ _ _ _ _) HP2.out.row HFa.out (fun h => Ap.Lin_rep.2 (Ap.Lin_rep.1 h)) (by omega) (by omega) (Nat.le_refl _) (fun _ h => h.elim) ?_; intro v3 w3 hown hgrow hfr; rw [Nat.zero_add, List.nil_append] at hown; have hb3 : Below w2.heap.size w2 w3 := (Below.refl _ _).grown hgrow (Nat.le_refl _) (fun q hq => by cases hq); have HO3 := Lib.hid (And.intro hown hb3); obtain ⟨A3, c3, rfl⟩ := hown.value; clear hown hgrow hfr hb3)
    | (at_builtin; refine Kd.wpList_join (F := fun _ => False) (G := (· < w3.heap.size)) (B := w2.heap.size) (n := N) (m := M) (c := c2) (v := .slice A3 N c3) (xs := aa) (ys := bs) (A := A2) row_lin_t rfl _ _ rfl rfl rfl HO3.out.1 (row_on HR2.out.row HO3.out.2) HFb.out (fun h => Ap.Lin_rep.2 (Ap.Lin_rep.1 h)) (by omega) (by omega) HO3.out.2.size (fun _ h => h.elim) ?_; intro v4 w4 hown hgrow hfr; have hb4 : Below w2.heap.size w2 w4 := HO3.out.2.grown hgrow HO3.out.2.size (fun q hq => (HO3.out.1.low q hq).1); have HO4 := Lib.hid (And.intro hown hb4); obtain ⟨A4, c4, rfl⟩ := hown.value; clear hown hgrow hfr hb4))
  have HP4 := Lib.hid (HP2.out.on HO4.out.2)
  have HR4 := Lib.hid (HR2.out.on HO4.out.2)
  have HJ4 := Lib.hid (At.mk (w := w) HO4.out.1.read HP4.out.below)
  obtain ⟨NM, hNM⟩ : ∃ z, N + M = z := ⟨_, rfl⟩
  rw [hNM] at HJ4
  simp only [hNM]
  have hNM16 : NM ≤ 16 := by omega
  obtain ⟨jj, hjj⟩ : ∃ l, aa ++ bs = l := ⟨_, rfl⟩
  obtain ⟨us, hus⟩ : ∃ l, flatU 0 aa = l := ⟨_, rfl⟩
  obtain ⟨vs, hvs⟩ : ∃ l, flatU 0 bs = l := ⟨_, rfl⟩
  obtain ⟨ws, hws⟩ : ∃ l, us ++ vs.map (shiftU N) = l := ⟨_, rfl⟩
  have hu1 : unitsL aa = us := by rw [← hus]; exact may_units HK.out.1
  have hv1 : unitsL bs = vs := by rw [← hvs]; exact may_units HK.out.2.1
  have hw1 : unitsL jj = ws := by rw [← hjj, may_units HK.out.2.2.1, join_units, hus, hvs, HK.out.2.2.2.1]; exact hws
  obtain ⟨L1, hL1⟩ : ∃ l, us.length = l := ⟨_, rfl⟩
  obtain ⟨L2, hL2⟩ : ∃ l, vs.length = l := ⟨_, rfl⟩
  obtain ⟨L3, hL3⟩ : ∃ l, L1 + L2 = l := ⟨_, rfl⟩
  have hw3 : ws.length = L3 := by rw [← hws, List.length_append, List.length_map, hL1, hL2]; exact hL3
  have l1 : L1 ≤ 100000 := by rw [← hL1, ← hu1]; exact unitsL_length aa
  have l2 : L2 ≤ 100000 := by rw [← hL2, ← hv1]; exact unitsL_length bs
  obtain ⟨ga, hga⟩ : ∃ l, gsum aa = l := ⟨_, rfl⟩
  obtain ⟨gb, hgb⟩ : ∃ l, gsum bs = l := ⟨_, rfl⟩
  obtain ⟨gj, hgj⟩ : ∃ l, ga + gb = l := ⟨_, rfl⟩
  have hja : grossN aa = ga := by rw [may_gross HK.out.1]; exact hga
  have hjb : grossN bs = gb := by rw [may_gross HK.out.2.1]; exact hgb
  have hjg : grossN jj = gj := by rw [← hjj, may_gross HK.out.2.2.1, gsum_append, hga, hgb]; exact hgj
  have hgmx := HK.out.2.2.1.gross
  rw [gsum_append, hga, hgb] at hgmx
  have hg0 := HK.out.1.fine.sums.2.2.1
  have hg1 := HK.out.2.1.fine.sums.2.2.1
  rw [hga] at hg0
  rw [hgb] at hg1
  have qg : IntKind.i64.wrap (ga + gb) = gj := by rw [hgj]; exact IntWalk.i64_in _ (by omega)
  have qL : IntKind.i64.wrap ((L1 : Int) + (L2 : Int)) = (L3 : Int) := by rw [IntWalk.i64_in _ (by omega)]; omega
  have HJ4 : Hid (At kLin w w4 A4 NM jj) := Lib.hid (by rw [← hjj]; exact HJ4.out)
  have HU := Lib.hid (And.intro hu1 (And.intro hv1 (And.intro hw1 (And.intro hL1 (And.intro hL2 (And.intro hL3 (And.intro hw3 hws)))))))
  have HGs := Lib.hid (And.intro hja (And.intro hjb (And.intro hjg (And.intro qg qL))))
  have HLs := Lib.hid (And.intro l1 l2)
  have HCu := Lib.hid (units_any A1 N c1 aa w4 HP4.out.row (by omega))
  rw [hu1] at HCu
  clear hNM hjj hus hvs hws hu1 hv1 hw1 hL1 hL2 hL3 hw3 l1 l2 hga hgb hgj hja hjb hjg hgmx hg0 hg1 qg qL HO3 HO4 HP2 HR2 HFa HFb HF
  go_wp2_with fail
  refine HCu.out.mono ?_
  rintro e w5 ⟨A5, c5, rfl, ho5, hb5⟩
  rw [HU.out.2.2.2.1] at ho5
  simp only [HU.out.2.2.2.1]
  have HP5 := Lib.hid (HP4.out.on hb5)
  have HR5 := Lib.hid (HR4.out.on hb5)
  have HJ5 := Lib.hid (HJ4.out.on hb5)
  have HUa := Lib.hid (own_at ho5 hb5 HP4.out.below)
  have HCu := Lib.hid (units_any A2 M c2 bs w5 HR5.out.row (by omega))
  rw [HU.out.2.1] at HCu
  clear ho5 hb5 HP4 HR4 HJ4
  go_wp2_with fail
  refine HCu.out.mono ?_
  rintro e w6 ⟨A6, c6, rfl, ho6, hb6⟩
  rw [HU.out.2.2.2.2.1] at ho6
  simp only [HU.out.2.2.2.2.1]
  have HP6 := Lib.hid (HP5.out.on hb6)
  have HR6 := Lib.hid (HR5.out.on hb6)
  have HJ6 := Lib.hid (HJ5.out.on hb6)
  have HUb := Lib.hid (HUa.out.on hb6)
  have HVb := Lib.hid (own_at ho6 hb6 HP5.out.below)
  have HCu := Lib.hid (units_any A4 NM c4 jj w6 HJ6.out.row (by omega))
  rw [HU.out.2.2.1] at HCu
  clear ho6 hb6 HP5 HR5 HJ5 HUa
  go_wp2_with fail
  refine HCu.out.mono ?_
  rintro e w7 ⟨A7, c7, rfl, ho7, hb7⟩
  rw [HU.out.2.2.2.2.2.2.1] at ho7
  simp only [HU.out.2.2.2.2.2.2.1]
  have HP7 := Lib.hid (HP6.out.on hb7)
  have HR7 := Lib.hid (HR6.out.on hb7)
  have HJ7 := Lib.hid (HJ6.out.on hb7)
  have HUc := Lib.hid (HUb.out.on hb7)
  have HVc := Lib.hid (HVb.out.on hb7)
  have HWc := Lib.hid (own_at ho7 hb7 HP6.out.below)
  have HA := Lib.hid (awake_any w7)
  clear ho7 hb7 HP6 HR6 HJ6 HUb HVb HCu
  go_wp2_with fail
  refine HA.out.mono ?_
  rintro e w8 ⟨rfl, hb8⟩
  have HP8 := Lib.hid (HP7.out.on hb8)
  have HR8 := Lib.hid (HR7.out.on hb8)
  have HJ8 := Lib.hid (HJ7.out.on hb8)
  have HUd := Lib.hid (HUc.out.on hb8)
  have HVd := Lib.hid (HVc.out.on hb8)
  have HWd := Lib.hid (HWc.out.on hb8)
  have HC := Lib.hid (gross_any A4 NM c4 jj w8 HJ8.out.row (by omega))
  rw [HGs.out.2.2.1] at HC
  obtain ⟨_, _, _, qg, qL⟩ := HGs.out
  have e3 : ((L3 : Int) == (L3 : Int)) = true := beq_self_eq_true _
  have e4 : ((L3 : Int) != (L3 : Int)) = false := by rw [bne, e3]; rfl
  clear hb8 HP7 HR7 HJ7 HUc HVc HWc HA
  go_wp2_with fail
  refine HC.out.mono ?_
  rintro e w9 ⟨rfl, hb9⟩
  have HP9 := Lib.hid (HP8.out.on hb9)
  have HR9 := Lib.hid (HR8.out.on hb9)
  have HUe := Lib.hid (HUd.out.on hb9)
  have HVe := Lib.hid (HVd.out.on hb9)
  have HWe := Lib.hid (HWd.out.on hb9)
  have HC := Lib.hid (gross_any A1 N c1 aa w9 HP9.out.row (by omega))
  rw [HGs.out.1] at HC
  clear hb9 HP8 HR8 HJ8 HUd HVd HWd
  go_wp2_with fail
  refine HC.out.mono ?_
  rintro e wa ⟨rfl, hba⟩
  have HRa := Lib.hid (HR9.out.on hba)
  have HUf := Lib.hid (HUe.out.on hba)
  have HVf := Lib.hid (HVe.out.on hba)
  have HWf := Lib.hid (HWe.out.on hba)
  have HC := Lib.hid (gross_any A2 M c2 bs wa HRa.out.row (by omega))
  rw [HGs.out.2.1] at HC
  clear hba HP9 HR9 HUe HVe HWe
  go_wp2_with fail
  refine HC.out.mono ?_
  rintro e wb ⟨rfl, hbb⟩
  have HUg := Lib.hid (HUf.out.on hbb)
  have HVg := Lib.hid (HVf.out.on hbb)
  have HWg := Lib.hid (HWf.out.on hbb)
  have e5 : (gj == gj) = true := beq_self_eq_true _
  have e6 : (gj != gj) = false := by rw [bne, e5]; rfl
  clear hbb HRa HUf HVf HWf HC
  go_wp2
  clear qg qL e3 e4 e5 e6
  go_loopw [9] (fun s9 wr => ∃ i : Nat, s9 = .int .i64 i ∧ i ≤ L3 ∧ Hid (At kUnt w wr A5 L1 us ∧ At kUnt w wr A6 L2 vs ∧ At kUnt w wr A7 L3 ws)) (fun s9 _ => L3 - (intOf s9).toNat)
  case atStart => exact ⟨0, rfl, by omega, Lib.hid ⟨HUg.out, HVg.out, HWg.out⟩⟩
  case round =>
    clear HUg HVg HWg
    obtain ⟨i, rfl, hi, HJ⟩ := hrel
    have ii : (0 : Int) ≤ (i : Int) := by omega
    have l12 := HLs.out
    have l3 := HU.out.2.2.2.2.2.1
    have hL12 : L1 ≤ 100000 ∧ L2 ≤ 100000 ∧ L3 ≤ 200000 := by omega
    clear l12 l3
    by_cases hlt : i < L3
    · have k1 : (i : Int) < (L3 : Int) := by omega
      by_cases h1 : i < L1
      · have k2 : (i : Int) < (L1 : Int) := by omega
        obtain ⟨u, hu⟩ := HJ.out.1.row.get h1
        have hw : ws[i]? = some u := by rw [← HU.out.2.2.2.2.2.2.2, List.getElem?_append_left (by rw [HU.out.2.2.2.1]; exact h1)]; exact hu
        obtain ⟨g, o, rfl, _, hg, hok, a0, a1, a2⟩ := row_Unt HJ.out.1.row hu
        obtain ⟨g7, o7, rfl, _, hg7, _, b0, b1, b2⟩ := row_Unt HJ.out.2.2.row hw
        obtain ⟨x1, hx1⟩ : ∃ z, u.line = z := ⟨_, rfl⟩
        obtain ⟨x2, hx2⟩ : ∃ z, u.net = z := ⟨_, rfl⟩
        obtain ⟨x3, hx3⟩ : ∃ z, u.opn = z := ⟨_, rfl⟩
        rw [hx1] at a0 b0
        rw [hx2] at a1 b1
        rw [hx3] at a2 b2
        obtain ⟨W9, hW9⟩ : ∃ W9, wr.alloc (.cells #[.int .i64 x1, .int .i64 x2, .bool x3] 37) = W9 := ⟨_, rfl⟩
        have hb : Below wr.heap.size wr W9 := by rw [← hW9]; exact (Below.refl _ _).alloc (Nat.le_refl _) _
        have hbx : Qu.Blk W9 wr.heap.size 37 #[.int .i64 x1, .int .i64 x2, .bool x3] := by rw [← hW9]; exact Qu.Blk.new wr _ _
        have HJ9 : Hid (∀ q, At kUnt w (W9.drewN q) (some ⟨g, o, none⟩) L1 us ∧ At kUnt w (W9.drewN q) A6 L2 vs ∧ At kUnt w (W9.drewN q) (some ⟨g7, o7, none⟩) L3 ws) := Lib.hid fun q => ⟨(HJ.out.1.on hb).on (Qu.below_draws (Below.refl _ _) q), (HJ.out.2.1.on hb).on (Qu.below_draws (Below.refl _ _) q), (HJ.out.2.2.on hb).on (Qu.below_draws (Below.refl _ _) q)⟩
        have d0 : ∀ q, (W9.drewN q).cell? ⟨g7, o7 + i * 3, none⟩ = some (.int .i64 x1) := fun q => (hb.cell (p := ⟨g7, _, none⟩) hg7).trans b0
        have d1 : ∀ q, (W9.drewN q).cell? ⟨g7, o7 + i * 3 + 1, none⟩ = some (.int .i64 x2) := fun q => (hb.cell (p := ⟨g7, _, none⟩) hg7).trans b1
        have d2 : ∀ q, (W9.drewN q).cell? ⟨g7, o7 + i * 3 + 2, none⟩ = some (.bool x3) := fun q => (hb.cell (p := ⟨g7, _, none⟩) hg7).trans b2
        have f0 : ∀ q, (W9.drewN q).cell? ⟨wr.heap.size, 0, none⟩ = some (.int .i64 x1) := fun q => hbx.cell 0
        have f1 : ∀ q, (W9.drewN q).cell? ⟨wr.heap.size, 1, none⟩ = some (.int .i64 x2) := fun q => hbx.cell 1
        have f2 : ∀ q, (W9.drewN q).cell? ⟨wr.heap.size, 2, none⟩ = some (.bool x3) := fun q => hbx.cell 2
        have s1 : (x1 == x1) = true := beq_self_eq_true _
        have s2 : (x2 == x2) = true := beq_self_eq_true _
        have s3 : (x3 == x3) = true := beq_self_eq_true _
        have hw9 := Lib.hid hW9
        clear hu hw hok hx1 hx2 hx3 hW9 hb hbx b0 b1 b2 HJ hg hg7
        go_upto_region 16 with (fail)
        rw [hw9.out]
        clear hw9 a0 a1 a2
        obtain ⟨bx, hbx⟩ : ∃ bx, wr.heap.size = bx := ⟨_, rfl⟩
        simp only [hbx] at f0 f1 f2 ⊢
        clear hbx
        go_quiet (fail)
        go_wp2_with fail
        go_roundw
        case rel => exact ⟨i + 1, by go_num, by omega, Lib.hid (HJ9.out _)⟩
        case measure => simp [intOf]; omega
      · have k2 : ¬ (i : Int) < (L1 : Int) := by omega
        obtain ⟨z, hz⟩ : ∃ z, i - L1 = z := ⟨_, rfl⟩
        have hl3 := HU.out.2.2.2.2.2.1
        have hz2 : z < L2 := by omega
        have wz : IntKind.i64.wrap ((i : Int) - (L1 : Int)) = (z : Int) := by rw [IntWalk.i64_in _ (by omega)]; omega
        have z0 : (0 : Int) ≤ (z : Int) := by omega
        have z1 : (z : Int) < (L2 : Int) := by omega
        obtain ⟨u, hu⟩ := HJ.out.2.1.row.get hz2
        have hw : ws[i]? = some (shiftU N u) := by rw [← HU.out.2.2.2.2.2.2.2, List.getElem?_append_right (by rw [HU.out.2.2.2.1]; omega), HU.out.2.2.2.1, hz, List.getElem?_map, hu]; rfl
        have hvb : flatU 0 bs = vs := by rw [← may_units HK.out.2.1]; exact HU.out.2.1
        obtain ⟨t, y, hy, hyu⟩ := flat_at (xs := bs) (j := 0) (i := z) (u := u) (by rw [hvb]; exact hu)
        have htM : t < M := by rw [← HK.out.2.2.2.2.1]; exact (List.getElem?_eq_some_iff.1 hy).1
        rw [Nat.zero_add] at hyu
        subst hyu
        obtain ⟨g, o, rfl, _, hg, hok, a0, a1, a2⟩ := row_Unt HJ.out.2.1.row hu
        obtain ⟨g7, o7, rfl, _, hg7, _, b0, b1, b2⟩ := row_Unt HJ.out.2.2.row hw
        unfold shiftU at b0 b1 b2
        dsimp only at a0 a1 a2 b0 b1 b2
        obtain ⟨x2, hx2⟩ : ∃ z, y.price = z := ⟨_, rfl⟩
        obtain ⟨x4, hx4⟩ : ∃ z, (t : Int) + (N : Int) = z := ⟨_, rfl⟩
        have wt : IntKind.i64.wrap ((t : Int) + (N : Int)) = x4 := by rw [hx4]; exact IntWalk.i64_in _ (by omega)
        rw [hx4] at b0
        rw [hx2] at a1 b1
        obtain ⟨W9, hW9⟩ : ∃ W9, wr.alloc (.cells #[.int .i64 x4, .int .i64 x2, .bool true] 37) = W9 := ⟨_, rfl⟩
        have hb : Below wr.heap.size wr W9 := by rw [← hW9]; exact (Below.refl _ _).alloc (Nat.le_refl _) _
        have hbx : Qu.Blk W9 wr.heap.size 37 #[.int .i64 x4, .int .i64 x2, .bool true] := by rw [← hW9]; exact Qu.Blk.new wr _ _
        have HJ9 : Hid (∀ q, At kUnt w (W9.drewN q) A5 L1 us ∧ At kUnt w (W9.drewN q) (some ⟨g, o, none⟩) L2 vs ∧ At kUnt w (W9.drewN q) (some ⟨g7, o7, none⟩) L3 ws) := Lib.hid fun q => ⟨(HJ.out.1.on hb).on (Qu.below_draws (Below.refl _ _) q), (HJ.out.2.1.on hb).on (Qu.below_draws (Below.refl _ _) q), (HJ.out.2.2.on hb).on (Qu.below_draws (Below.refl _ _) q)⟩
        have d0 : ∀ q, (W9.drewN q).cell? ⟨g7, o7 + i * 3, none⟩ = some (.int .i64 x4) := fun q => (hb.cell (p := ⟨g7, _, none⟩) hg7).trans b0
        have d1 : ∀ q, (W9.drewN q).cell? ⟨g7, o7 + i * 3 + 1, none⟩ = some (.int .i64 x2) := fun q => (hb.cell (p := ⟨g7, _, none⟩) hg7).trans b1
        have d2 : ∀ q, (W9.drewN q).cell? ⟨g7, o7 + i * 3 + 2, none⟩ = some (.bool true) := fun q => (hb.cell (p := ⟨g7, _, none⟩) hg7).trans b2
        have f0 : ∀ q, (W9.drewN q).cell? ⟨wr.heap.size, 0, none⟩ = some (.int .i64 x4) := fun q => hbx.cell 0
        have f1 : ∀ q, (W9.drewN q).cell? ⟨wr.heap.size, 1, none⟩ = some (.int .i64 x2) := fun q => hbx.cell 1
        have f2 : ∀ q, (W9.drewN q).cell? ⟨wr.heap.size, 2, none⟩ = some (.bool true) := fun q => hbx.cell 2
        have s1 : (x4 == x4) = true := beq_self_eq_true _
        have s2 : (x2 == x2) = true := beq_self_eq_true _
        have hw9 := Lib.hid hW9
        clear hu hw hok hx2 hx4 hW9 hb hbx b0 b1 b2 HJ hg hg7 hz hl3 hy hvb
        go_upto_region 16 with (fail)
        rw [hw9.out]
        clear hw9 a0 a1 a2
        obtain ⟨bx, hbx⟩ : ∃ bx, wr.heap.size = bx := ⟨_, rfl⟩
        simp only [hbx] at f0 f1 f2 ⊢
        clear hbx
        go_quiet (fail)
        go_wp2_with fail
        go_roundw
        case rel => exact ⟨i + 1, by go_num, by omega, Lib.hid (HJ9.out _)⟩
        case measure => simp [intOf]; omega
    · have k1 : ¬ (i : Int) < (L3 : Int) := by omega
      have HB := Lib.hid HJ.out.1.below
      clear HJ
      go_wp2
      go_ret
      exact ⟨rfl, HB.out⟩

set_option maxRecDepth 100000 in
theorem lifted (os : Os) (started : os.Started) (H : Type) (enc : TypeId × Value → H) :
    ReturnsInHanded {} Try.checked os 7 .any (Rows.basketJoinSpec.pre6 enc Try.prog Try.f7 Rows.basketJoinRow.domain false) (Rows.basketJoinSpec.post enc Try.prog Try.f7 false true false false) := by
  refine returnsInHanded_of_change (C := Try.checked) own started (by kernel_rfl) Try.func7
    (ChangeSpec.witness6 (enc := enc) (C := Try.checked) false ⟨#[], #[.slice none 0 0, .slice none 0 0], []⟩ 8 (by kernel_rfl) (by kernel_rfl) (by kernel_rfl) (by kernel_rfl)) ?_
  intro W base args ds gs before hval0 hW hcnd _
  have hval : ∀ (j : Nat) t v, Try.f7.params[j]? = some t → args[j]? = some v → Value.okWide Try.prog W .any base t v := hval0
  have hW' := hW
  obtain ⟨p, q, hA0, hV, rfl, hfz, hnd⟩ := hW
  have hA : DataW.TrodAll enc Try.prog W 0 (fun _ => true) true Try.f7.params.toList args.toList ds p := hA0
  rw [Try.params7] at hA hval
  obtain ⟨v0, vs0, d0, ds0, p0, q0, hargs, rfl, rfl, h0, r0⟩ := trodAll_cons hA
  obtain ⟨v1, vs1, d1, ds1, p1, q1, rfl, rfl, rfl, h1, r1⟩ := trodAll_cons r0
  obtain ⟨rfl, rfl, rfl⟩ := trodAll_nil r1
  obtain rfl : args = #[v0, v1] := by cases args; simp_all
  obtain ⟨A0, n0, c0, xs0, rfl, x0, y0⟩ := Kd.open_list Ap.reads_Lin Try.underlying23 (by decide) (hval 0 23 v0 rfl rfl) h0
  obtain ⟨A1, n1, c1, xs1, rfl, x1, y1⟩ := Kd.open_list Ap.reads_Lin Try.underlying23 (by decide) (hval 1 23 v1 rfl rfl) h1
  refine (walk W A0 n0 c0 xs0 x0 y0 A1 n1 c1 xs1 x1 y1).mono fun e W' ⟨he, hb⟩ => ?_
  subst he
  exact ⟨_, rfl, Hk.closeLaw (tb := 4) (by kernel_rfl) (by kernel_rfl) rfl rfl rfl Try.underlying4 hW' hb⟩

theorem over : Rows.basketJoinRow.holds Try.pinned (OpenSpec.ofChange Rows.basketJoinSpec) :=
  OpenClaim.holds_of_wide 7 Try.f7 rfl rfl rfl rfl rfl rfl rfl ⟨rfl, rfl, rfl, rfl, rfl⟩ rfl rfl rfl rfl rfl (by kernel_rfl) Try.func7 (by kernel_rfl)
    (of_decide_eq_true (by kernel_rfl)) (by unfold Func.isWrapper; first | (rw [if_pos (by decide +kernel)]; kernel_rfl) | (rw [if_neg (by decide +kernel)]; exact ⟨rfl, rfl⟩))
    (fun os started H enc _ => lifted os started H enc)

/-- The statement. -/
theorem proved : Rows.BasketJoinSaid :=
  over
end Go.Proofs.Ytdmpnkhgcggepaa.basketJoin
