/- P9.2: each Compact that is OK turns to the other half, up to twenty times, with bases of up to two hundred bytes: what was there is gone, but the base; opened again it is the same; for every list of bases. No conditions. -/
import Derived.Test.YtedgookkogpfbaaVlF
import Derived.Test.YtedgookkogpfbaaVtF
import Derived.Test.YtedgookkogpfbaaVqA
import Derived.Test.YtedgookkogpfbaaBa
set_option maxRecDepth 100000
namespace Go.Proofs.Ytedgookkogpfbaa.vaultTurns
open Go.ChangeShapes Go.WideShapes Go.ChangeAt Go.RowKit
set_option linter.unusedVariables false

theorem own : ownKnob Try.prog.godebug = none := by kernel_rfl

open Qu (Blk)
open Mv (Only)
open By (Bys cellsB cellsB_length)
open Dk (DS dsNew)
open Dd (Lay At Pl)
open Vt Vl

set_option maxRecDepth 100000 in
set_option maxHeartbeats 8000000 in
theorem walk (w : World) (A0 : Option Addr) (n0 c0 : Nat) (f : Nat → List UInt8) (hI : Hk.Rin w A0 n0 f) (hn0 : n0 ≤ 9223372036854775807) :
    Calls Try.prog 5 #[.slice A0 n0 c0] w fun e w' => e = .returned (.bool true) ∧ Below w.heap.size w w' := by
  by_cases h20 : 20 < n0
  · have i1 : (20 : Int) < (n0 : Int) := by omega
    have i2 : decide (20 < n0) = true := decide_eq_true h20
    have HA := Lib.hid (awake_any w)
    clear hI h20
    go_enter Try.func5, Try.ntmps5
    go_wp2_with fail
    refine HA.out.mono ?_
    rintro e w1 ⟨rfl, k1⟩
    have HK := Lib.hid k1
    clear k1
    go_wp2_with fail
    go_ret
    exact ⟨rfl, HK.out⟩
  have i1 : ¬ (20 : Int) < (n0 : Int) := by omega
  have i2 : decide (20 < n0) = false := decide_eq_false h20
  have i3 : (n0 : Int) ≤ 20 := by omega
  obtain ⟨m1, m2⟩ := VT.new
  have HI := Lib.hid hI
  have HM := Lib.hid (And.intro m1 m2)
  clear hI h20 m1 m2
  go_enter Try.func5, Try.ntmps5
  go_wp2_with fail
  refine (Dd.new_ok w 40 (by omega) (by omega)).mono ?_
  rintro e w1 ⟨q, rfl, hq, hlo, hb⟩
  have HP1 := Lib.hid (dp_new hq hlo hb (by omega) (by omega))
  clear hq hlo hb
  go_wp2_with fail
  refine (vp_open HP1.out HM.out.1).mono ?_
  rintro e w2 ⟨x, rfl, hV, _⟩
  have hT0 := HM.out.2
  generalize vopenV (dsNew 40) = v0 at *
  generalize vopenDS (dsNew 40) = d0 at *
  have HV := Lib.hid (And.intro hV hT0)
  clear hV HP1 HM hT0
  go_wp2_with fail
  refine (awake_any w2).mono ?_
  rintro e w3 ⟨rfl, k3⟩
  have HV3 := Lib.hid (And.intro (HV.out.1.later k3) HV.out.2)
  clear k3 HV
  go_wp2_with fail
  go_loopw [7] (fun s7 wr => ∃ (i : Nat) (v : VS) (d : DS) (base : List UInt8), s7 = .int .i64 (i : Int) ∧ i ≤ n0 ∧ VP w wr x q v d ∧ VT d v base i) (fun s _ => n0 - (intOf s).toNat)
  case atStart => exact ⟨0, v0, d0, [], rfl, Nat.zero_le _, HV3.out.1, HV3.out.2⟩
  case round =>
    clear HV3
    obtain ⟨i, v, d, base, rfl, hi, hV, hT⟩ := hrel
    have HV := Lib.hid (And.intro hV hT)
    clear hV hT
    have i0 : (0 : Int) ≤ (i : Int) := by omega
    by_cases hlt : i < n0
    · have j1 : (i : Int) < (n0 : Int) := by omega
      obtain ⟨b, o, A', c', rfl, hbl, hc, hB, hA0, hle, hc63⟩ := (HI.out) i hlt
      generalize hz : f i = z at *
      have hcr := (HV.out.1.below.cell (p := ⟨b, o + i, none⟩) hbl).trans hc
      obtain ⟨T, hT⟩ : ∃ T : Nat, min z.length 200 = T := ⟨_, rfl⟩
      have hT0 : (0 : Int) ≤ (T : Int) := by omega
      have hT1 : (if (z.length : Int) < 200 then (z.length : Int) else 200) = (T : Int) := by split <;> omega
      have hT2 : (if 200 < (z.length : Int) then 200 else (z.length : Int)) = (T : Int) := by split <;> omega
      have hT3 : (T : Int) ≤ (c' : Int) := by omega
      have hT4 : (T : Int) ≤ 200 := by omega
      have hTz : T ≤ z.length := by omega
      obtain ⟨bb, hbb⟩ : ∃ bb, z.take T = bb := ⟨_, rfl⟩
      have hbl2 : bb.length = T := by rw [← hbb, List.length_take]; omega
      have hBT := hB.take hTz
      rw [hbb] at hBT
      have HBW : Hid (∀ u, Below w.heap.size w u → Bys u u.heap.size A' T bb) := Lib.hid (fun u hu => (hBT.below hu (Nat.le_refl _)).more hu.size)
      have HBL := Lib.hid hbl2
      have HA0 : Hid (A' = none → T = 0 ∧ c' = 0) := Lib.hid (fun h => by have := hA0 h; omega)
      have HLT := Lib.hid (And.intro hlt (And.intro hi (show n0 ≤ 20 by omega)))
      clear hz hB hA0 hle hT hbb hBT hbl2 hlt hi hbl hc
      go_wp2_with fail
      go_region_held3 (fun u => u.cell? ⟨b, o + i, none⟩ = some (.slice A' z.length c'))
        (first
          | exact hcr)
        (fail)
      unfold Exit.then
      dsimp only
      clear hcr
      -- Add
      have hV1 := HV.out.1.later ((Below.refl wr.heap.size wr).drew)
      generalize wr.drew = wd at *
      obtain ⟨q1, q2, q3⟩ := HV.out.2.round (b := bb) (by have := HLT.out; omega) (by rw [HBL.out]; omega) 120
      have hcv := conv_one 120
      obtain ⟨W3, hW3⟩ : ∃ W3, W3 = wd.alloc (.cells #[.int .u8 120] 5 (1, 2)) := ⟨_, rfl⟩
      have k3 : Below wd.heap.size wd W3 := by rw [hW3]; exact (Below.refl _ _).alloc (Nat.le_refl _) _
      have HA : Hid (Calls Try.prog 24 #[.pointer (some ⟨x, 0, none⟩), .slice (some ⟨wd.heap.size, 0, none⟩) 1 1] W3 fun e w' => e = .returned (.int .i64 (vaddE d v [120])) ∧ VP w w' x q (vaddV d v [120]) (vaddDS d v [120])) := Lib.hid (vp_add (hV1.later k3) (b := [120]) (cb := 1) (Ab := some ⟨wd.heap.size, 0, none⟩) (by rw [hW3]; exact marked_bys wd 120) (by simp) (by omega) (by simp) (fun a ha hh => by
        injection ha with ha
        subst ha
        obtain ⟨Bd, y, A, c, vs, h1, h2⟩ := hV1.some
        have := h1.there _ hh
        exact Nat.lt_irrefl _ this))
      rw [q1] at HA
      have HW3 := Lib.hid hW3
      have HQ := Lib.hid (And.intro q2 q3)
      clear hW3 k3 hV1 q1 q2 q3 HV
      go_wp2_with fail
      rw [← HW3.out]
      refine HA.out.mono ?_
      rintro e w4 ⟨rfl, hV4⟩
      obtain ⟨q2, q3⟩ := HQ.out
      generalize vaddV d v [120] = v4 at *
      generalize vaddDS d v [120] = d4 at *
      -- Compact
      have HC : Hid (Calls Try.prog 14 #[.pointer (some ⟨x, 0, none⟩), .slice A' T c'] w4 fun e w' => e = .returned (.int .i64 0) ∧ VP w w' x q (vcompV d4 v4 bb) (vcompDS d4 v4 bb)) := Lib.hid (by
        have hh := vp_comp hV4 (Ab := A') (cb := c') (b := bb) (by rw [HBL.out]; exact HBW.out w4 hV4.below) (by rw [HBL.out]; exact HA0.out) (by rw [HBL.out]; omega)
        rw [HBL.out, q2] at hh
        exact hh)
      have HT := Lib.hid q3
      clear hV4 q2 q3 HQ HA HW3 hcv
      go_wp2_with fail
      refine HC.out.mono ?_
      rintro e w5 ⟨rfl, hV5⟩
      have hT5 := HT.out
      generalize vcompV d4 v4 bb = v5 at *
      generalize vcompDS d4 v4 bb = d5 at *
      obtain ⟨u1, u2⟩ := hT5.used
      have u3 := hT5.half
      rw [HBL.out] at u1
      obtain ⟨Q, hQ⟩ : ∃ Q, T / 46 = Q := ⟨_, rfl⟩
      obtain ⟨hf, hhf⟩ : ∃ hf, (i + 1) % 2 = hf := ⟨_, rfl⟩
      rw [hQ] at u1
      rw [hhf] at u3
      have r1 : ((i : Int) + 1).tmod 2 = (hf : Int) := by rw [Int.tmod_eq_emod_of_nonneg (by omega)]; omega
      have r2 : ((i : Int) + 1) % 2 = (hf : Int) := by omega
      have t1 : ((T : Int).tdiv 46) = (Q : Int) := by rw [Int.tdiv_eq_ediv_of_nonneg (by omega)]; omega
      have t2 : ((T : Int) / 46) = (Q : Int) := by omega
      have t3 : (Q : Int) ≤ 10 := by omega
      have t4 : (((Q : Int) + 1) != ((Q : Int) + 1)) = false := bne_self_eq_false _
      have t5 : ((hf : Int) != (hf : Int)) = false := bne_self_eq_false _
      have HHA : Hid (∀ u, Below w5.heap.size w5 u → Calls Try.prog 32 #[.pointer (some ⟨x, 0, none⟩)] u fun e w' => e = .returned (.int .i64 (hf : Int)) ∧ w' = u) := Lib.hid (fun u hu => by rw [← u3]; exact vp_half (hV5.later hu))
      have HUS : Hid (∀ u, Below w5.heap.size w5 u → Calls Try.prog 33 #[.pointer (some ⟨x, 0, none⟩)] u fun e w' => e = .returned (.int .i64 ((Q : Int) + 1)) ∧ w' = u) := Lib.hid (fun u hu => by have h := vp_used (hV5.later hu); rw [u1] at h; exact h)
      have HRE : Hid (∀ u, Below w5.heap.size w5 u → Calls Try.prog 31 #[.pointer (some ⟨x, 0, none⟩)] u fun e w' => ∃ A' c', e = .returned (.slice A' 0 c') ∧ Below u.heap.size u w') := Lib.hid (fun u hu => by
        have h := vp_records (hV5.later hu)
        rw [u2] at h
        exact h.mono fun e w' ⟨A', c', h1, h2, h3, h4⟩ => ⟨A', c', h1, h4⟩)
      have HBA : Hid (∀ u, Below w5.heap.size w5 u → Calls Try.prog 29 #[.pointer (some ⟨x, 0, none⟩)] u fun e w' => ∃ A1 c1, e = .returned (.slice A1 T c1) ∧ Bys w' w'.heap.size A1 T bb ∧ Below u.heap.size u w') := Lib.hid (fun u hu => by
        have h := vp_base (hV5.later hu) (b := bb) (r := []) u2
        exact h.mono fun e w' ⟨A1, c1, h1, h2, h3, h4⟩ => ⟨A1, c1, by rw [h1, HBL.out], by rw [← HBL.out]; rw [HBL.out] at h2 ⊢; exact h2, h4⟩)
      have HBY : Hid (∀ u A1 c1, Bys u u.heap.size A1 T bb → Below w.heap.size w u → Calls Try.prog 28 #[.slice A1 T c1, .slice A' T c'] u fun e w' => e = .returned (.bool true) ∧ w' = u) := Lib.hid (fun u A1 c1 h1 h2 => by
        have hh := By.bytes_any A1 A' T T c1 c' u.heap.size bb bb u h1 (HBW.out u h2)
        rw [beq_self_eq_true] at hh
        exact hh.mono fun e w' ⟨he, hd⟩ => ⟨he, hd.symm⟩)
      have HV5 := Lib.hid (And.intro hV5 hT5)
      clear hV5 hT5 u1 u2 u3 hQ hhf HT HC HBL
      go_wp2_with (first
        | (go_at_call 32; (with_reducible refine (HHA.out _ (Below.refl _ _)).mono ?_); rintro e w6 ⟨rfl, hw⟩; rw [hw]; clear hw w6)
        | (go_at_call 31; (with_reducible refine (HRE.out _ (Below.refl _ _)).mono ?_); rintro e w6 ⟨A6, c6, rfl, k6⟩)
        | (go_at_call 29; (with_reducible refine (HBA.out _ k6).mono ?_); rintro e w7 ⟨A7, c7, rfl, hy7, k7⟩)
        | (go_at_call 28; (with_reducible refine (HBY.out _ A7 c7 hy7 (HV5.out.1.later (Dk.below_then k6 k7)).below).mono ?_); rintro e w8 ⟨rfl, hw⟩; rw [hw]; clear hw w8)
        | (go_at_call 33; (with_reducible refine (HUS.out _ (Dk.below_then k6 k7)).mono ?_); rintro e w8 ⟨rfl, hw⟩; rw [hw]; clear hw w8))
      go_roundw
      case rel => exact ⟨i + 1, v5, d5, bb, by go_num, by have := HLT.out; omega, HV5.out.1.later (Dk.below_then k6 k7), HV5.out.2⟩
      case measure => simp [intOf]; have := HLT.out; omega
    · have hin : i = n0 := by omega
      subst hin
      have j1 : ¬ (i : Int) < (i : Int) := by omega
      obtain ⟨u1, u2⟩ := HV.out.2.used
      obtain ⟨g0, g1, g2, g3, g4⟩ := HV.out.2.again (by omega)
      have HF := Lib.hid HV.out.2.found
      have HG := Lib.hid (And.intro g0 (And.intro g1 (And.intro g2 (And.intro g3 (g4.trans u2)))))
      have HHA := Lib.hid (vp_half HV.out.1)
      have HUS := Lib.hid (vp_used HV.out.1)
      have HBA := Lib.hid (vp_base HV.out.1 u2)
      generalize v.half = vh at *
      generalize v.j.used = vu at *
      clear u1 u2 g0 g1 g2 g3 g4 hlt hi
      go_wp2_with (first
        | (go_at_call 32; (with_reducible refine HHA.out.mono ?_); rintro e w6 ⟨rfl, hw⟩; rw [hw]; clear hw w6)
        | (go_at_call 33; (with_reducible refine HUS.out.mono ?_); rintro e w6 ⟨rfl, hw⟩; rw [hw]; clear hw w6)
        | (go_at_call 29; (with_reducible refine HBA.out.mono ?_); rintro e w7 ⟨A7, c7, rfl, hy7, hc7, k7⟩))
      have HV7 := Lib.hid (And.intro (HV.out.1.later k7).dp (And.intro hy7 hc7))
      clear hy7 hc7 k7 HHA HUS HBA HV
      refine (vp_open HV7.out.1 HG.out.1).mono ?_
      rintro e w8 ⟨x2, rfl, hV8, kf⟩
      have k8 := kf HF.out
      obtain ⟨g0, g1, g2, g3, g4⟩ := HG.out
      generalize vopenV d = v8 at *
      have HHA := Lib.hid (vp_half hV8)
      have HUS := Lib.hid (vp_used hV8)
      have HBA := Lib.hid (vp_base hV8 g4)
      rw [g2] at HHA
      rw [g3] at HUS
      have HV8 := Lib.hid (And.intro hV8 (And.intro k8 (HV7.out.2.1.below k8 (Nat.le_refl _) |>.more k8.size)))
      have z1 : ((vh : Int) == (vh : Int)) = true := beq_self_eq_true _
      have z2 : ((vu : Int) == (vu : Int)) = true := beq_self_eq_true _
      have HBY : Hid (∀ u A1 c1, Bys u u.heap.size A1 base.length base → Below w8.heap.size w8 u → Calls Try.prog 28 #[.slice A1 base.length c1, .slice A7 base.length c7] u fun e w' => e = .returned (.bool true) ∧ w' = u) := Lib.hid (fun u A1 c1 h1 h2 => by
        have hh := By.bytes_any A1 A7 base.length base.length c1 c7 u.heap.size base base u h1 ((HV8.out.2.2.below h2 (Nat.le_refl _)).more h2.size)
        rw [beq_self_eq_true] at hh
        exact hh.mono fun e w' ⟨he, hd⟩ => ⟨he, hd.symm⟩)
      clear hV8 kf k8 g0 g1 g2 g3 g4 HG HF
      go_wp2_with (first
        | (go_at_call 32; (with_reducible refine HHA.out.mono ?_); rintro e w9 ⟨rfl, hw⟩; rw [hw]; clear hw w9)
        | (go_at_call 33; (with_reducible refine HUS.out.mono ?_); rintro e w9 ⟨rfl, hw⟩; rw [hw]; clear hw w9)
        | (go_at_call 29; (with_reducible refine HBA.out.mono ?_); rintro e w9 ⟨A9, c9, rfl, hy9, hc9, k9⟩)
        | (go_at_call 28; (with_reducible refine (HBY.out _ A9 c9 hy9 k9).mono ?_); rintro e w10 ⟨rfl, hw⟩; rw [hw]; clear hw w10))
      go_ret
      exact ⟨rfl, (HV8.out.1.later k9).below⟩

set_option maxRecDepth 100000 in
theorem lifted (os : Os) (started : os.Started) (H : Type) (enc : TypeId × Value → H) :
    ReturnsInHanded {} Try.checked os 5 .any (Rows.vaultTurnsSpec.pre6 enc Try.prog Try.f5 Rows.vaultTurnsRow.domain false) (Rows.vaultTurnsSpec.post enc Try.prog Try.f5 false true false false) := by
  refine returnsInHanded_of_change (C := Try.checked) own started (by kernel_rfl) Try.func5
    (ChangeSpec.witness6 (enc := enc) (C := Try.checked) false ⟨#[], #[.slice none 0 0], []⟩ 8 (by kernel_rfl) (by kernel_rfl) (by kernel_rfl) (by kernel_rfl)) ?_
  intro W base args ds gs before hval0 hW hcnd _
  have hval : ∀ (j : Nat) t v, Try.f5.params[j]? = some t → args[j]? = some v → Value.okWide Try.prog W .any base t v := hval0
  have hW' := hW
  obtain ⟨p, q, hA0, hV, rfl, hfz, hnd⟩ := hW
  have hA : DataW.TrodAll enc Try.prog W 0 (fun _ => true) true Try.f5.params.toList args.toList ds p := hA0
  rw [Try.params5] at hA hval
  obtain ⟨v0, vs0, d0, ds0, p0, q0, hargs, rfl, rfl, h0, r0⟩ := trodAll_cons hA
  obtain ⟨rfl, rfl, rfl⟩ := trodAll_nil r0
  obtain rfl : args = #[v0] := by cases args; simp_all
  obtain ⟨A0, n0, c0, f0, rfl, x0, y0⟩ := Hk.open_rows_bytes (hval 0 49 v0 rfl rfl) h0
  refine (walk W A0 n0 c0 f0 x0 y0).mono fun e W' ⟨he, hb⟩ => ?_
  subst he
  exact ⟨_, rfl, Hk.closeLaw (tb := 4) (by kernel_rfl) (by kernel_rfl) rfl rfl rfl Try.underlying4 hW' hb⟩

theorem over : Rows.vaultTurnsRow.holds Try.pinned (OpenSpec.ofChange Rows.vaultTurnsSpec) :=
  OpenClaim.holds_of_wide 5 Try.f5 rfl rfl rfl rfl rfl rfl rfl ⟨rfl, rfl, rfl, rfl, rfl⟩ rfl rfl rfl rfl rfl (by kernel_rfl) Try.func5 (by kernel_rfl)
    (of_decide_eq_true (by kernel_rfl)) (by unfold Func.isWrapper; first | (rw [if_pos (by decide +kernel)]; kernel_rfl) | (rw [if_neg (by decide +kernel)]; exact ⟨rfl, rfl⟩))
    (fun os started H enc _ => lifted os started H enc)

/-- The statement. -/
theorem proved : Rows.VaultTurnsSaid :=
  over
end Go.Proofs.Ytedgookkogpfbaa.vaultTurns
