/- P13.1: so many zones, rates, kinds, and no more; for every number. No conditions. -/
import Derived.Test.YtfcmhgneijipgaaGreatPk0
import Derived.Test.YtfcmhgneijipgaaGreatPk40

set_option maxRecDepth 100000
namespace Go.Proofs.YtfcmhgneijipgaaGreat.rulesMany
open Go.ChangeShapes Go.WideShapes Go.ChangeAt Go.RowKit
open Ap (CtR Zon Txs Shp Pol Rls Prm kCtR kZon kPrm)
open Kd (Kind Row Own Cells Fit Agree Lst Sl kStr kInt kList row_str Deep High)
set_option maxRecDepth 100000
set_option linter.unusedVariables false
theorem own : ownKnob Tryz.prog.godebug = none := by kernel_rfl
set_option maxHeartbeats 20000000 in
theorem walk (w : World) (a0 : Int) (w0 : (Lit.int .i64 a0).wf = true) :
    Calls Tryz.prog 7 #[.int .i64 a0] w fun e w' => e = .returned (.bool true) ∧ Below w.heap.size w w' := by
  obtain ⟨t, ht⟩ : ∃ t, Py.modN a0 3 = t := ⟨_, rfl⟩
  have ht3 := Py.modN_lt a0 3 (by omega)
  have HM := Lib.hid (fun W => Py.mod_any a0 3 W (by omega) (by omega))
  rw [ht] at ht3
  simp only [ht] at HM
  obtain ⟨x, hx⟩ : ∃ x, Py.modN a0 2 = x := ⟨_, rfl⟩
  have hx2 := Py.modN_lt a0 2 (by omega)
  have HM2 := Lib.hid (fun W => Py.mod_any a0 2 W (by omega) (by omega))
  rw [hx] at hx2
  simp only [hx] at HM2
  obtain ⟨Z, hZ⟩ : ∃ Z, 19 + t = Z := ⟨_, rfl⟩
  obtain ⟨K, hK⟩ : ∃ K, 39 + t = K := ⟨_, rfl⟩
  have qZ : IntKind.i64.wrap (19 + (t : Int)) = (Z : Int) := by rw [IntWalk.i64_in _ (by omega)]; omega
  have qK : IntKind.i64.wrap (39 + (t : Int)) = (K : Int) := by rw [IntWalk.i64_in _ (by omega)]; omega
  have qx : IntKind.i64.wrap (9 + (x : Int)) = 9 + (x : Int) := IntWalk.i64_in _ (by omega)
  have hB : Z ≤ 21 ∧ 19 ≤ Z ∧ K ≤ 41 ∧ 39 ≤ K ∧ x < 2 := by omega
  have HBn := Lib.hid hB
  obtain ⟨W1, hW1⟩ : ∃ W1, w.alloc (.cells #[.bool false, .bool false, .int .i64 0, .slice none 0 0] 26) = W1 := ⟨_, rfl⟩
  obtain ⟨W2, hW2⟩ : ∃ W2, W1.alloc (.cells #[.bool false, .bool false, .int .i64 0, .slice none 0 0] 26) = W2 := ⟨_, rfl⟩
  have hs1 : W1.heap.size = w.heap.size + 1 := by rw [← hW1]; simp
  have HM0 : Hid (Ru.MZ w W2 (.slice none 0 0) 0) := Lib.hid ⟨by rw [← hW2, ← hW1]; exact ((Below.refl _ _).alloc (Nat.le_refl _) _).alloc (by simp) _, by rw [← hW2, ← hW1]; exact (Qu.Blk.new w _ _).alloc _, by rw [← hW2, ← hs1]; exact Qu.Blk.new W1 _ _, Own.nil _ _ _ _ _⟩
  clear w0 ht hx ht3 hx2 hZ hK hB
  go_enter Tryz.func7, Tryz.ntmps7
  go_wp2_with fail
  refine (HM.out _).mono ?_
  rintro e v1 ⟨rfl, hv1⟩
  obtain rfl := hv1.symm
  go_wp2_with fail
  refine (HM.out _).mono ?_
  rintro e v2 ⟨rfl, hv2⟩
  obtain rfl := hv2.symm
  go_wp2
  clear qZ qK hW1 hW2 hs1
  go_loopw [7] (fun s7 wr => ∃ k : Nat, s7 = .int .i64 k ∧ k ≤ Z ∧ Hid (∃ v, Ru.MZ w wr v k)) (fun s7 _ => Z - (intOf s7).toNat)
  case atStart => exact ⟨0, rfl, by omega, Lib.hid ⟨_, HM0.out⟩⟩
  case round =>
    clear HM0
    obtain ⟨k, rfl, hk, hM⟩ := hrel
    obtain ⟨v, hM⟩ := hM.out
    obtain ⟨A, c, rfl⟩ := hM.own.value
    have k0 : (0 : Int) ≤ (k : Int) := by omega
    by_cases hlt : k < Z
    · have k1 : (k : Int) < (Z : Int) := by omega
      have hk20 : k ≤ 20 := by have := HBn.out; omega
      have hT := fun W => Ru.text_two W 97 (97 + k) (by omega) (by omega)
      have hSt : By.strOf [UInt8.ofNat 97, UInt8.ofNat (97 + k)] = Py.two 97 (97 + k) := rfl
      simp only [hSt] at hT
      have f2 : ((97 + k : Nat) : Int) = 97 + (k : Int) := by omega
      have f1 : ((97 : Nat) : Int) = 97 := rfl
      simp only [f1, f2] at hT
      obtain ⟨W3, hW3⟩ : ∃ W3, wr.alloc (.cells #[.int .u8 97, .int .u8 (97 + (k : Int))] 5) = W3 := ⟨_, rfl⟩
      have hT1 := hT wr
      rw [hW3] at hT1
      have hb3 : Below wr.heap.size wr W3 := by rw [← hW3]; exact (Below.refl _ _).alloc (Nat.le_refl _) _
      have HM3 := Lib.hid (hM.later hb3)
      have t3 := HM3.out.tb.cell 3
      have tf := HM3.out.tb.frozen
      have x3 := hM.tb.cell 3
      have hbs : w.heap.size + 2 ≤ W3.heap.size := by have := HM3.out.ub.lt; omega
      clear hM hT hSt f1 f2 hb3
      go_wp2_with ((at_builtin; refine Kd.wpList_push (W := W3) (F := fun _ => False) (B := w.heap.size + 2) (n := k) (v := .slice A k c) (xs := Ru.zL k) (y := Ru.zM k) (cs := [.string (Py.two 97 (97 + k)), .slice none 0 0, .int .i64 0, .int .i64 0]) Py.zon_t rfl _ _ rfl rfl rfl rfl HM3.out.own (Ru.zM_rep _ _ _) (by omega) (by omega) hbs (fun _ h => h.elim) ?_; intro g cap w9 hown hgrow hfr; have HP := Lib.hid (HM3.out.push hown hgrow); have t39 := HP.out.2.cell 3; have t3f := HP.out.2.frozen; clear hown hgrow hfr))
      go_roundw
      case rel => exact ⟨k + 1, by go_num, by omega, Lib.hid ⟨_, HP.out.1⟩⟩
      case measure => simp [intOf]; omega
    · obtain rfl : Z = k := by omega
      have k1 : ¬ (Z : Int) < (Z : Int) := by omega
      obtain ⟨W3, hW3⟩ : ∃ W3, wr.alloc (.cells #[.string ⟨#[97]⟩, .slice none 0 0, .int .i64 0, .int .i64 0] 41) = W3 := ⟨_, rfl⟩
      have hR0 := Ru.MR.begin hM hW3
      have HR0 := Lib.hid hR0
      obtain ⟨g1, hg1⟩ : ∃ g1, wr.heap.size = g1 := ⟨_, rfl⟩
      have u0 := hR0.2.ub.cell 0
      have u1 := hR0.2.ub.cell 1
      have u2 := hR0.2.ub.cell 2
      have u3 := hR0.2.ub.cell 3
      have uf := hR0.2.ub.frozen
      obtain ⟨wo, hwo⟩ : ∃ wo : World, wo = wr := ⟨_, rfl⟩
      subst hwo
      clear hM hR0
      go_wp2
      try simp only [hg1]
      simp only [hg1] at HR0
      clear hW3 hg1 u0 u1 u2 u3 uf
      go_loopw [8] (fun s8 wr => ∃ j : Nat, s8 = .int .i64 j ∧ j ≤ K ∧ Hid (∃ vr, Ru.MR w wr A Z c g1 vr j)) (fun s8 _ => K - (intOf s8).toNat)
      case atStart => exact ⟨0, rfl, by omega, Lib.hid ⟨_, HR0.out.1⟩⟩
      case round =>
        clear HR0
        obtain ⟨j, rfl, hj, hR⟩ := hrel
        obtain ⟨vr, hR⟩ := hR.out
        obtain ⟨B, d, rfl⟩ := hR.own.value
        have j0 : (0 : Int) ≤ (j : Int) := by omega
        by_cases hjl : j < K
        · have j1 : (j : Int) < (K : Int) := by omega
          have hj40 : j ≤ 40 := by have := HBn.out; omega
          have HR := Lib.hid hR
          clear hR
          go_upto_block 3 with (fail)
          go_cut [8] (fun s8 wx => s8 = .int .i64 (j : Int) ∧ Hid (∃ vr, Ru.MR w wx A Z c g1 vr (j + 1)))
          case first =>
            have hT := fun W => Ru.text_two W (97 + j / 10) (48 + j % 10) (by omega) (by omega)
            have hSt : By.strOf [UInt8.ofNat (97 + j / 10), UInt8.ofNat (48 + j % 10)] = Py.two (97 + j / 10) (48 + j % 10) := rfl
            simp only [hSt] at hT
            have f1 : ((97 + j / 10 : Nat) : Int) = 97 + (j : Int) / 10 := by omega
            have f2 : ((48 + j % 10 : Nat) : Int) = 48 + (j : Int) % 10 := by omega
            simp only [f1, f2] at hT
            obtain ⟨st, hst⟩ : ∃ st, Py.two (97 + j / 10) (48 + j % 10) = st := ⟨_, rfl⟩
            simp only [hst] at hT
            have HSt := Lib.hid hst
            obtain ⟨W3, hW3⟩ : ∃ W3, wr.drew.alloc (.cells #[.int .u8 (97 + (j : Int) / 10), .int .u8 (48 + (j : Int) % 10)] 5) = W3 := ⟨_, rfl⟩
            have hT1 : (convert 63 9 (.slice (some ⟨wr.heap.size, 0, none⟩) 2 2)).run Tryz.prog W3
                = .ok (.string st) W3 := by
              have h := hT wr.drew
              rw [hW3] at h
              exact h
            have hb3 : Below wr.heap.size wr W3 := by rw [← hW3]; exact ((Below.refl _ _).drew).alloc (Nat.le_refl _) _
            have HR3 := Lib.hid (HR.out.later hb3)
            have u3 : ∀ u, Below g1 wr u → u.cell? ⟨w.heap.size + 1, 3, none⟩ = some (.slice (some ⟨g1, 0, none⟩) 1 1) := fun u hu => (hu.cell (p := ⟨w.heap.size + 1, _, none⟩) (by have := HR.out.low; show w.heap.size + 1 < g1; omega)).trans (HR.out.ub.cell 3)
            have p1 : wr.cell? ⟨g1, 1, none⟩ = some (.slice B j d) := HR.out.zb.cell 1
            have q1 : W3.cell? ⟨g1, 1, none⟩ = some (.slice B j d) := HR3.out.zb.cell 1
            have q1a : ∀ ob : Obj, (W3.alloc ob).cell? ⟨g1, 1, none⟩ = some (.slice B j d) := fun ob => (HR3.out.zb.alloc ob).cell 1
            have hgs : g1 ≤ wr.heap.size := Nat.le_of_lt HR.out.zb.lt
            have hb3' : Below g1 wr W3 := hb3.mono hgs
            have HB3 := Lib.hid hb3'
            have hrep : Hid (∀ W, kCtR.rep W (fun _ => False) (Ru.rM j) [.string st, .int .i64 0]) := Lib.hid fun W => by rw [← HSt.out]; exact Ru.rM_rep W _ j
            have hbs : g1 + 1 ≤ W3.heap.size := HR3.out.zb.lt
            clear hT hSt f1 f2 hst hb3 hb3'
            have HW3 : Hid ((wr.alloc (.cells #[.int .u8 (97 + (j : Int) / 10), .int .u8 (48 + (j : Int) % 10)] 5)).drew = W3) := Lib.hid hW3
            have w1 : IntKind.i64.wrap ((j : Int) / 10) = (j : Int) / 10 := IntWalk.i64_in _ (by omega)
            have w2 : IntKind.u8.wrap ((j : Int) / 10) = (j : Int) / 10 := IntWalk.u8_in _ (by omega)
            have w3 : IntKind.u8.wrap (97 + (j : Int) / 10) = 97 + (j : Int) / 10 := IntWalk.u8_in _ (by omega)
            have w4 : (j : Int).tmod 10 = (j : Int) % 10 := by rw [Int.tmod_eq_emod_of_nonneg (by omega)]
            have w5 : IntKind.u8.wrap ((j : Int) % 10) = (j : Int) % 10 := IntWalk.u8_in _ (by omega)
            have w6 : IntKind.u8.wrap (48 + (j : Int) % 10) = 48 + (j : Int) % 10 := IntWalk.u8_in _ (by omega)
            clear hW3
            go_wp2_with fail
            refine wp_region_held_drew (S := fun u => Below g1 wr u) (by kernel_rfl) ((Below.refl _ _).drew) (fun hS0 => ?_)
            refine pkT 0 40 hS0 ?_
            try simp only [Act.put, pkA, pkB, pkC]
            refine pkT 1 41 hS0 ?_
            try simp only [Act.put, pkA, pkB, pkC]
            refine pkT 2 42 hS0 ?_
            try simp only [Act.put, pkA, pkB, pkC]
            refine pkT 3 43 hS0 ?_
            try simp only [Act.put, pkA, pkB, pkC]
            refine pkT 4 44 hS0 ?_
            try simp only [Act.put, pkA, pkB, pkC]
            refine pkT 5 45 hS0 ?_
            try simp only [Act.put, pkA, pkB, pkC]
            refine pkT 7 47 hS0 ?_
            try simp only [Act.put, pkA, pkB, pkC]
            refine pkT 8 48 hS0 ?_
            try simp only [Act.put, pkA, pkB, pkC]
            refine pkT 9 49 hS0 ?_
            try simp only [Act.put, pkA, pkB, pkC]
            refine pkT 10 50 hS0 ?_
            try simp only [Act.put, pkA, pkB, pkC]
            refine pkT 11 51 hS0 ?_
            try simp only [Act.put, pkA, pkB, pkC]
            refine pkT 12 52 hS0 ?_
            try simp only [Act.put, pkA, pkB, pkC]
            refine pkT 13 53 hS0 ?_
            try simp only [Act.put, pkA, pkB, pkC]
            refine pkT 14 54 hS0 ?_
            try simp only [Act.put, pkA, pkB, pkC]
            refine wpAnyH_ready (rs := [6, 15]) (by kernel_rfl) (by simp) ?_
            refine AllReadyH.cons (o := ⟨some 46, _, _, _, _, _⟩) rfl (fun K hK => ?_) ?_
            ·
              go_simp
              refine hK.out _ _ (hS0) (fun hS1 => ?_)
              clear hK K
              try simp only [Act.put, pkA, pkB, pkC]
              refine wpAnyH_ready (rs := [15]) (by kernel_rfl) (by simp) ?_
              refine AllReadyH.cons (o := ⟨some 55, _, _, _, _, _⟩) rfl (fun K hK => ?_) AllReadyH.nil
              go_simp
              try simp only [w1, w2, w3, w4, w5, w6]
              rw [HW3.out]
              refine hK.out _ _ (HB3.out) (fun hS2 => ?_)
              clear hK K
              try simp only [Act.put, pkA, pkB, pkC]
              refine wpAnyH_ready (rs := [16]) (by kernel_rfl) (by simp) ?_
              refine AllReadyH.cons (o := ⟨some 56, _, _, _, _, _⟩) rfl (fun K hK => ?_) AllReadyH.nil
              go_simp
              refine hK.out _ _ (hS2) (fun hS3 => ?_)
              clear hK K
              try simp only [Act.put, pkA, pkB, pkC]
              refine pkT 17 57 hS3 ?_
              try simp only [Act.put, pkA, pkB, pkC]
              refine wpAnyH_ready (rs := [18]) (by kernel_rfl) (by simp) ?_
              refine AllReadyH.cons (o := ⟨some 58, _, _, _, _, _⟩) rfl (fun K hK => ?_) AllReadyH.nil
              go_simp
              refine hK.out _ _ ((Below.alloc hS3 (by have := HR3.out.zb.lt; omega) _)) (fun hS4 => ?_)
              clear hK K
              try simp only [Act.put, pkA, pkB, pkC]
              refine wpAnyH_ready (rs := [19]) (by kernel_rfl) (by simp) ?_
              refine AllReadyH.cons (o := ⟨some 59, _, _, _, _, _⟩) rfl (fun K hK => ?_) AllReadyH.nil
              refine Kd.step_push (o := ⟨some 59, _, _, _, _, _⟩) (W := W3) (F := fun _ => False) (B := g1 + 1) (n := j) (v := .slice B j d) (xs := Ru.rL j) (y := Ru.rM j) (cs := [.string st, .int .i64 0]) Ap.CtR.row_t rfl (.tmp 46) (.tmp 58) rfl rfl rfl rfl HR3.out.own (hrep.out _) (by omega) (by omega) hbs (fun _ h => h.elim) ?_
              intro g cap w9 hown hgrow hfr
              have HP := Lib.hid (HR3.out.push hown hgrow)
              have z19 : w9.cell? ⟨g1, 1, none⟩ = some (.slice B j d) := HP.out.2.2.cell 1
              have z1f := HP.out.2.2.frozen
              have h9 : Below g1 wr w9 := HB3.out.grown hgrow (by have := HR3.out.zb.lt; omega) (fun q hq => by have := (HR3.out.own.low q hq).1; omega)
              clear hown hgrow hfr
              refine hK.out _ _ (h9) (fun hS5 => ?_)
              clear hK K
              try simp only [Act.put, pkA, pkB, pkC]
              refine pkT 20 60 hS5 ?_
              try simp only [Act.put, pkA, pkB, pkC]
              refine pkT 21 61 hS5 ?_
              try simp only [Act.put, pkA, pkB, pkC]
              refine wpAnyH_ready (rs := [22]) (by kernel_rfl) (by simp) ?_
              refine AllReadyH.cons (o := ⟨none, _, _, _, _, _⟩) rfl (fun K hK => ?_) AllReadyH.nil
              go_simp
              refine hK.out _ _ ((Kd.below_set (Nat.le_refl _) hS5)) (fun hS6 => ?_)
              clear hK K
              try simp only [Act.put, pkA, pkB, pkC]
              refine wpAnyH_done (by kernel_rfl) ?_ _
              go_wp2_with fail
              go_meet
              exact ⟨rfl, Lib.hid ⟨_, HP.out.1⟩⟩
            refine AllReadyH.cons (o := ⟨some 55, _, _, _, _, _⟩) rfl (fun K hK => ?_) AllReadyH.nil
            go_simp
            try simp only [w1, w2, w3, w4, w5, w6]
            rw [HW3.out]
            refine hK.out _ _ (HB3.out) (fun hS1 => ?_)
            clear hK K
            try simp only [Act.put, pkA, pkB, pkC]
            refine wpAnyH_ready (rs := [6, 16]) (by kernel_rfl) (by simp) ?_
            refine AllReadyH.cons (o := ⟨some 46, _, _, _, _, _⟩) rfl (fun K hK => ?_) ?_
            ·
              go_simp
              refine hK.out _ _ (hS1) (fun hS2 => ?_)
              clear hK K
              try simp only [Act.put, pkA, pkB, pkC]
              refine wpAnyH_ready (rs := [16]) (by kernel_rfl) (by simp) ?_
              refine AllReadyH.cons (o := ⟨some 56, _, _, _, _, _⟩) rfl (fun K hK => ?_) AllReadyH.nil
              go_simp
              refine hK.out _ _ (hS2) (fun hS3 => ?_)
              clear hK K
              try simp only [Act.put, pkA, pkB, pkC]
              refine pkT 17 57 hS3 ?_
              try simp only [Act.put, pkA, pkB, pkC]
              refine wpAnyH_ready (rs := [18]) (by kernel_rfl) (by simp) ?_
              refine AllReadyH.cons (o := ⟨some 58, _, _, _, _, _⟩) rfl (fun K hK => ?_) AllReadyH.nil
              go_simp
              refine hK.out _ _ ((Below.alloc hS3 (by have := HR3.out.zb.lt; omega) _)) (fun hS4 => ?_)
              clear hK K
              try simp only [Act.put, pkA, pkB, pkC]
              refine wpAnyH_ready (rs := [19]) (by kernel_rfl) (by simp) ?_
              refine AllReadyH.cons (o := ⟨some 59, _, _, _, _, _⟩) rfl (fun K hK => ?_) AllReadyH.nil
              refine Kd.step_push (o := ⟨some 59, _, _, _, _, _⟩) (W := W3) (F := fun _ => False) (B := g1 + 1) (n := j) (v := .slice B j d) (xs := Ru.rL j) (y := Ru.rM j) (cs := [.string st, .int .i64 0]) Ap.CtR.row_t rfl (.tmp 46) (.tmp 58) rfl rfl rfl rfl HR3.out.own (hrep.out _) (by omega) (by omega) hbs (fun _ h => h.elim) ?_
              intro g cap w9 hown hgrow hfr
              have HP := Lib.hid (HR3.out.push hown hgrow)
              have z19 : w9.cell? ⟨g1, 1, none⟩ = some (.slice B j d) := HP.out.2.2.cell 1
              have z1f := HP.out.2.2.frozen
              have h9 : Below g1 wr w9 := HB3.out.grown hgrow (by have := HR3.out.zb.lt; omega) (fun q hq => by have := (HR3.out.own.low q hq).1; omega)
              clear hown hgrow hfr
              refine hK.out _ _ (h9) (fun hS5 => ?_)
              clear hK K
              try simp only [Act.put, pkA, pkB, pkC]
              refine pkT 20 60 hS5 ?_
              try simp only [Act.put, pkA, pkB, pkC]
              refine pkT 21 61 hS5 ?_
              try simp only [Act.put, pkA, pkB, pkC]
              refine wpAnyH_ready (rs := [22]) (by kernel_rfl) (by simp) ?_
              refine AllReadyH.cons (o := ⟨none, _, _, _, _, _⟩) rfl (fun K hK => ?_) AllReadyH.nil
              go_simp
              refine hK.out _ _ ((Kd.below_set (Nat.le_refl _) hS5)) (fun hS6 => ?_)
              clear hK K
              try simp only [Act.put, pkA, pkB, pkC]
              refine wpAnyH_done (by kernel_rfl) ?_ _
              go_wp2_with fail
              go_meet
              exact ⟨rfl, Lib.hid ⟨_, HP.out.1⟩⟩
            refine AllReadyH.cons (o := ⟨some 56, _, _, _, _, _⟩) rfl (fun K hK => ?_) AllReadyH.nil
            go_simp
            refine hK.out _ _ (hS1) (fun hS2 => ?_)
            clear hK K
            try simp only [Act.put, pkA, pkB, pkC]
            refine pkT 17 57 hS2 ?_
            try simp only [Act.put, pkA, pkB, pkC]
            refine wpAnyH_ready (rs := [6, 18]) (by kernel_rfl) (by simp) ?_
            refine AllReadyH.cons (o := ⟨some 46, _, _, _, _, _⟩) rfl (fun K hK => ?_) ?_
            ·
              go_simp
              refine hK.out _ _ (hS2) (fun hS3 => ?_)
              clear hK K
              try simp only [Act.put, pkA, pkB, pkC]
              refine wpAnyH_ready (rs := [18]) (by kernel_rfl) (by simp) ?_
              refine AllReadyH.cons (o := ⟨some 58, _, _, _, _, _⟩) rfl (fun K hK => ?_) AllReadyH.nil
              go_simp
              refine hK.out _ _ ((Below.alloc hS3 (by have := HR3.out.zb.lt; omega) _)) (fun hS4 => ?_)
              clear hK K
              try simp only [Act.put, pkA, pkB, pkC]
              refine wpAnyH_ready (rs := [19]) (by kernel_rfl) (by simp) ?_
              refine AllReadyH.cons (o := ⟨some 59, _, _, _, _, _⟩) rfl (fun K hK => ?_) AllReadyH.nil
              refine Kd.step_push (o := ⟨some 59, _, _, _, _, _⟩) (W := W3) (F := fun _ => False) (B := g1 + 1) (n := j) (v := .slice B j d) (xs := Ru.rL j) (y := Ru.rM j) (cs := [.string st, .int .i64 0]) Ap.CtR.row_t rfl (.tmp 46) (.tmp 58) rfl rfl rfl rfl HR3.out.own (hrep.out _) (by omega) (by omega) hbs (fun _ h => h.elim) ?_
              intro g cap w9 hown hgrow hfr
              have HP := Lib.hid (HR3.out.push hown hgrow)
              have z19 : w9.cell? ⟨g1, 1, none⟩ = some (.slice B j d) := HP.out.2.2.cell 1
              have z1f := HP.out.2.2.frozen
              have h9 : Below g1 wr w9 := HB3.out.grown hgrow (by have := HR3.out.zb.lt; omega) (fun q hq => by have := (HR3.out.own.low q hq).1; omega)
              clear hown hgrow hfr
              refine hK.out _ _ (h9) (fun hS5 => ?_)
              clear hK K
              try simp only [Act.put, pkA, pkB, pkC]
              refine pkT 20 60 hS5 ?_
              try simp only [Act.put, pkA, pkB, pkC]
              refine pkT 21 61 hS5 ?_
              try simp only [Act.put, pkA, pkB, pkC]
              refine wpAnyH_ready (rs := [22]) (by kernel_rfl) (by simp) ?_
              refine AllReadyH.cons (o := ⟨none, _, _, _, _, _⟩) rfl (fun K hK => ?_) AllReadyH.nil
              go_simp
              refine hK.out _ _ ((Kd.below_set (Nat.le_refl _) hS5)) (fun hS6 => ?_)
              clear hK K
              try simp only [Act.put, pkA, pkB, pkC]
              refine wpAnyH_done (by kernel_rfl) ?_ _
              go_wp2_with fail
              go_meet
              exact ⟨rfl, Lib.hid ⟨_, HP.out.1⟩⟩
            refine AllReadyH.cons (o := ⟨some 58, _, _, _, _, _⟩) rfl (fun K hK => ?_) AllReadyH.nil
            go_simp
            refine hK.out _ _ ((Below.alloc hS2 (by have := HR3.out.zb.lt; omega) _)) (fun hS3 => ?_)
            clear hK K
            try simp only [Act.put, pkA, pkB, pkC]
            refine wpAnyH_ready (rs := [6]) (by kernel_rfl) (by simp) ?_
            refine AllReadyH.cons (o := ⟨some 46, _, _, _, _, _⟩) rfl (fun K hK => ?_) AllReadyH.nil
            go_simp
            refine hK.out _ _ (hS3) (fun hS4 => ?_)
            clear hK K
            try simp only [Act.put, pkA, pkB, pkC]
            refine wpAnyH_ready (rs := [19]) (by kernel_rfl) (by simp) ?_
            refine AllReadyH.cons (o := ⟨some 59, _, _, _, _, _⟩) rfl (fun K hK => ?_) AllReadyH.nil
            refine Kd.step_push (o := ⟨some 59, _, _, _, _, _⟩) (W := W3) (F := fun _ => False) (B := g1 + 1) (n := j) (v := .slice B j d) (xs := Ru.rL j) (y := Ru.rM j) (cs := [.string st, .int .i64 0]) Ap.CtR.row_t rfl (.tmp 46) (.tmp 58) rfl rfl rfl rfl HR3.out.own (hrep.out _) (by omega) (by omega) hbs (fun _ h => h.elim) ?_
            intro g cap w9 hown hgrow hfr
            have HP := Lib.hid (HR3.out.push hown hgrow)
            have z19 : w9.cell? ⟨g1, 1, none⟩ = some (.slice B j d) := HP.out.2.2.cell 1
            have z1f := HP.out.2.2.frozen
            have h9 : Below g1 wr w9 := HB3.out.grown hgrow (by have := HR3.out.zb.lt; omega) (fun q hq => by have := (HR3.out.own.low q hq).1; omega)
            clear hown hgrow hfr
            refine hK.out _ _ (h9) (fun hS5 => ?_)
            clear hK K
            try simp only [Act.put, pkA, pkB, pkC]
            refine pkT 20 60 hS5 ?_
            try simp only [Act.put, pkA, pkB, pkC]
            refine pkT 21 61 hS5 ?_
            try simp only [Act.put, pkA, pkB, pkC]
            refine wpAnyH_ready (rs := [22]) (by kernel_rfl) (by simp) ?_
            refine AllReadyH.cons (o := ⟨none, _, _, _, _, _⟩) rfl (fun K hK => ?_) AllReadyH.nil
            go_simp
            refine hK.out _ _ ((Kd.below_set (Nat.le_refl _) hS5)) (fun hS6 => ?_)
            clear hK K
            try simp only [Act.put, pkA, pkB, pkC]
            refine wpAnyH_done (by kernel_rfl) ?_ _
            go_wp2_with fail
            go_meet
            exact ⟨rfl, Lib.hid ⟨_, HP.out.1⟩⟩
          case rest =>
            obtain ⟨rfl, hc⟩ := hcut
            go_wp2
            go_roundw
            case rel => exact ⟨j + 1, by go_num, by omega, hc⟩
            case measure => simp [intOf]; omega
        · obtain rfl : K = j := by omega
          have j1 : ¬ (K : Int) < (K : Int) := by omega
          obtain ⟨W5, hW5⟩ : ∃ W5, wr.alloc (.cells #[.int .i64 1, .int .i64 2, .int .i64 3, .int .i64 4, .int .i64 5, .int .i64 6, .int .i64 7, .int .i64 8, .int .i64 9] 3) = W5 := ⟨_, rfl⟩
          have hb5 : Below wr.heap.size wr W5 := by rw [← hW5]; exact (Below.refl _ _).alloc (Nat.le_refl _) _
          have h8 : Qu.Blk W5 wr.heap.size 3 #[.int .i64 1, .int .i64 2, .int .i64 3, .int .i64 4, .int .i64 5, .int .i64 6, .int .i64 7, .int .i64 8, .int .i64 9] := by rw [← hW5]; exact Qu.Blk.new wr _ _
          have HR5 := Lib.hid (hR.later hb5)
          obtain ⟨W6, hW6⟩ : ∃ W6, W5.alloc (.cells #[.int .i64 (9 + (x : Int))] 3) = W6 := ⟨_, rfl⟩
          have hb6 : Below W5.heap.size W5 W6 := by rw [← hW6]; exact (Below.refl _ _).alloc (Nat.le_refl _) _
          have h9 : Qu.Blk W6 W5.heap.size 3 #[.int .i64 (9 + (x : Int))] := by rw [← hW6]; exact Qu.Blk.new W5 _ _
          obtain ⟨g8, hg8⟩ : ∃ g8, wr.heap.size = g8 := ⟨_, rfl⟩
          obtain ⟨g9, hg9⟩ : ∃ g9, W5.heap.size = g9 := ⟨_, rfl⟩
          have h86 := h8.below hb6
          rw [hg8] at h86
          rw [hg9] at h9
          obtain ⟨W7, hW7⟩ : ∃ W7, W6.alloc (.cells #[.slice none 0 0, .slice none 0 0, .bool false, .bool false, .int .i64 0, .slice none 0 0, .int .i64 0, .int .i64 0, .int .i64 0, .int .i64 0, .int .i64 3, .int .i64 0, .slice (some ⟨g8, 0, none⟩) 9 9, .slice (some ⟨g9, 0, none⟩) 1 1] 33) = W7 := ⟨_, rfl⟩
          have hb7 : Below W6.heap.size W6 W7 := by rw [← hW7]; exact (Below.refl _ _).alloc (Nat.le_refl _) _
          have h7 : Qu.Blk W7 W6.heap.size 33 #[.slice none 0 0, .slice none 0 0, .bool false, .bool false, .int .i64 0, .slice none 0 0, .int .i64 0, .int .i64 0, .int .i64 0, .int .i64 0, .int .i64 3, .int .i64 0, .slice (some ⟨g8, 0, none⟩) 9 9, .slice (some ⟨g9, 0, none⟩) 1 1] := by rw [← hW7]; exact Qu.Blk.new W6 _ _
          have HR7 := Lib.hid ((HR5.out.later hb6).later hb7)
          have H87 := Lib.hid (And.intro (h86.below hb7) (And.intro (h9.below hb7) h7))
          have HA := Lib.hid (Ru.awake_any W7)
          have HW5 := Lib.hid hW5
          have HW6 := Lib.hid hW6
          have HW7 := Lib.hid hW7
          have hs6 : W6.heap.size = g9 + 1 := by rw [← hW6, ← hg9]; simp
          rw [hs6] at H87
          clear hs6 hR hb5 hb6 hb7 h8 h9 h86 h7 hW7 hW6
          go_wp2_with fail
          refine (HM2.out _).mono ?_
          rintro e v3 ⟨rfl, hv3⟩
          obtain rfl := hv3.symm
          clear hW5
          go_upto_region 13 with (fail)
          try rw [HW6.out]
          try simp only [hg8, hg9]
          try rw [HW7.out]
          clear HW5 HW6 HW7 hg8 hg9 qx
          go_wp2_with fail
          refine HA.out.mono ?_
          rintro e w8 ⟨rfl, hb8⟩
          have HR8 := Lib.hid (HR7.out.later hb8)
          have H88 := Lib.hid (And.intro (H87.out.1.below hb8) (And.intro (H87.out.2.1.below hb8) (H87.out.2.2.below hb8)))
          have HT := Lib.hid (Ru.tax_any ⟨false, false, 0, Ru.zL Z⟩ ⟨⟨A, Z, c⟩⟩ w8 HR8.out.tholds (Ru.zL_small Z) (show Z ≤ _ by have := HBn.out; omega))
          rw [Ru.tT_may (by have := HBn.out; omega)] at HT
          obtain ⟨b1, hb1⟩ : ∃ b, decide (Z ≤ 20) = b := ⟨_, rfl⟩
          have hbI : decide ((Z : Int) ≤ 20) = b1 := by rw [← hb1]; congr 1; exact propext (by omega)
          rw [hb1] at HT
          have e1 : (b1 == b1) = true := by cases b1 <;> rfl
          have x0 := HR8.out.tb.cell 0
          have x1 := HR8.out.tb.cell 1
          have x2 := HR8.out.tb.cell 2
          have x3 := HR8.out.tb.cell 3
          clear hb8
          go_wp2_with fail
          refine HT.out.mono ?_
          rintro e w9 ⟨rfl, hb9⟩
          have HR9 := Lib.hid (HR8.out.later hb9)
          have H89 := Lib.hid (And.intro (H88.out.1.below hb9) (And.intro (H88.out.2.1.below hb9) (H88.out.2.2.below hb9)))
          have HU := Lib.hid (Ru.tax_any ⟨false, false, 0, [Ru.zA K]⟩ ⟨⟨some ⟨g1, 0, none⟩, 1, 1⟩⟩ w9 HR9.out.uholds (Ru.zA_small (by have := HBn.out; omega)) (show 1 ≤ _ by omega))
          rw [Ru.uT_may (by have := HBn.out; omega)] at HU
          obtain ⟨b2, hb2⟩ : ∃ b, decide (K ≤ 40) = b := ⟨_, rfl⟩
          have hbK : decide ((K : Int) ≤ 40) = b2 := by rw [← hb2]; congr 1; exact propext (by omega)
          rw [hb2] at HU
          have e2 : (b2 == b2) = true := by cases b2 <;> rfl
          have y0 := HR9.out.ub.cell 0
          have y1 := HR9.out.ub.cell 1
          have y2 := HR9.out.ub.cell 2
          have y3 := HR9.out.ub.cell 3
          clear hb9 x0 x1 x2 x3
          go_wp2_with fail
          refine HU.out.mono ?_
          rintro e wa ⟨rfl, hba⟩
          have HRa := Lib.hid (HR9.out.later hba)
          have H8a := Lib.hid (And.intro (H89.out.1.below hba) (And.intro (H89.out.2.1.below hba) (H89.out.2.2.below hba)))
          have HG := Lib.hid (Ru.right_any (Ru.rR (9 + (x : Int))) ⟨⟨none, 0, 0⟩, ⟨none, 0, 0⟩, ⟨⟨none, 0, 0⟩⟩, ⟨⟨some ⟨g8, 0, none⟩, 9, 9⟩, ⟨some ⟨g9, 0, none⟩, 1, 1⟩⟩⟩ wa (Ru.rR_holds HBn.out.2.2.2.2 H8a.out.1 H8a.out.2.1) (Ru.rR_small _))
          rw [Ru.rR_may x HBn.out.2.2.2.2] at HG
          obtain ⟨b3, hb3⟩ : ∃ b, decide (x = 0) = b := ⟨_, rfl⟩
          have hbx : ((x : Int) == 0) = b3 := by rw [← hb3]; exact Bool.eq_iff_iff.2 (by simp)
          rw [hb3] at HG
          unfold Ru.rR at HG
          have e3 : (b3 == b3) = true := by cases b3 <;> rfl
          have z0 : wa.cell? ⟨g9 + 1, 0, none⟩ = some (.slice none 0 0) := H8a.out.2.2.cell 0
          have z1 : wa.cell? ⟨g9 + 1, 1, none⟩ = some (.slice none 0 0) := H8a.out.2.2.cell 1
          have z2 : wa.cell? ⟨g9 + 1, 2, none⟩ = some (.bool false) := H8a.out.2.2.cell 2
          have z3 : wa.cell? ⟨g9 + 1, 3, none⟩ = some (.bool false) := H8a.out.2.2.cell 3
          have z4 : wa.cell? ⟨g9 + 1, 4, none⟩ = some (.int .i64 0) := H8a.out.2.2.cell 4
          have z5 : wa.cell? ⟨g9 + 1, 5, none⟩ = some (.slice none 0 0) := H8a.out.2.2.cell 5
          have z6 : wa.cell? ⟨g9 + 1, 6, none⟩ = some (.int .i64 0) := H8a.out.2.2.cell 6
          have z7 : wa.cell? ⟨g9 + 1, 7, none⟩ = some (.int .i64 0) := H8a.out.2.2.cell 7
          have z8 : wa.cell? ⟨g9 + 1, 8, none⟩ = some (.int .i64 0) := H8a.out.2.2.cell 8
          have z9 : wa.cell? ⟨g9 + 1, 9, none⟩ = some (.int .i64 0) := H8a.out.2.2.cell 9
          have z10 : wa.cell? ⟨g9 + 1, 10, none⟩ = some (.int .i64 3) := H8a.out.2.2.cell 10
          have z11 : wa.cell? ⟨g9 + 1, 11, none⟩ = some (.int .i64 0) := H8a.out.2.2.cell 11
          have z12 : wa.cell? ⟨g9 + 1, 12, none⟩ = some (.slice (some ⟨g8, 0, none⟩) 9 9) := H8a.out.2.2.cell 12
          have z13 : wa.cell? ⟨g9 + 1, 13, none⟩ = some (.slice (some ⟨g9, 0, none⟩) 1 1) := H8a.out.2.2.cell 13
          clear hba y0 y1 y2 y3
          go_wp2_with fail
          refine HG.out.mono ?_
          rintro e wb ⟨rfl, hbb⟩
          have HB9 := Lib.hid (HRa.out.below.trans (hbb.mono HRa.out.below.size))
          clear hbb z0 z1 z2 z3 z4 z5 z6 z7 z8 z9 z10 z11 z12 z13
          go_wp2_with fail
          refine (HM2.out _).mono ?_
          rintro e v4 ⟨rfl, hv4⟩
          obtain rfl := hv4.symm
          go_wp2
          go_ret
          exact ⟨rfl, HB9.out⟩
set_option maxRecDepth 100000 in
theorem lifted (os : Os) (started : os.Started) (H : Type) (enc : TypeId × Value → H) :
    ReturnsInHanded {} Tryz.checked os 7 .any (Rows.rulesManySpec.pre6 enc Tryz.prog Tryz.f7 Rows.rulesManyRow.domain false) (Rows.rulesManySpec.post enc Tryz.prog Tryz.f7 false true false false) := by
  refine returnsInHanded_of_change (C := Tryz.checked) own started (by kernel_rfl) Tryz.func7
    (ChangeSpec.witness6 (enc := enc) (C := Tryz.checked) false ⟨#[], #[.int .i64 0], []⟩ 8 (by kernel_rfl) (by kernel_rfl) (by kernel_rfl) (by kernel_rfl)) ?_
  intro W base args ds gs before hval0 hW hcnd _
  have hval : ∀ (j : Nat) t v, Tryz.f7.params[j]? = some t → args[j]? = some v → Value.okWide Tryz.prog W .any base t v := hval0
  have hW' := hW
  obtain ⟨p, q, hA0, hV, rfl, hfz, hnd⟩ := hW
  have hA : DataW.TrodAll enc Tryz.prog W 0 (fun _ => true) true Tryz.f7.params.toList args.toList ds p := hA0
  rw [Tryz.params7] at hA hval
  obtain ⟨v0, vs0, d0, ds0, p0, q0, hargs, rfl, rfl, h0, r0⟩ := trodAll_cons hA
  obtain ⟨rfl, rfl, rfl⟩ := trodAll_nil r0
  obtain rfl : args = #[v0] := by cases args; simp_all
  obtain ⟨a0, rfl, _, _, w0⟩ := open_int Tryz.underlying3 (hval 0 3 v0 rfl rfl) h0
  refine (walk W a0 w0).mono fun e W' ⟨he, hb⟩ => ?_
  subst he
  exact ⟨_, rfl, Hk.closeLaw (tb := 4) (by kernel_rfl) (by kernel_rfl) rfl rfl rfl Tryz.underlying4 hW' hb⟩
theorem over : Rows.rulesManyRow.holds Tryz.pinned (OpenSpec.ofChange Rows.rulesManySpec) :=
  OpenClaim.holds_of_wide 7 Tryz.f7 rfl rfl rfl rfl rfl rfl rfl ⟨rfl, rfl, rfl, rfl, rfl⟩ rfl rfl rfl rfl rfl (by kernel_rfl) Tryz.func7 (by kernel_rfl)
    (of_decide_eq_true (by kernel_rfl)) (by unfold Func.isWrapper; first | (rw [if_pos (by decide +kernel)]; kernel_rfl) | (rw [if_neg (by decide +kernel)]; exact ⟨rfl, rfl⟩))
    (fun os started H enc _ => lifted os started H enc)
theorem proved : Rows.RulesManySaid :=
  over
end Go.Proofs.YtfcmhgneijipgaaGreat.rulesMany
