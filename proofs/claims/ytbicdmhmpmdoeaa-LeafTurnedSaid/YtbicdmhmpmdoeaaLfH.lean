/- The document's Take. -/
import Derived.Test.YtbicdmhmpmdoeaaLfG
namespace Go.Proofs.Ytbicdmhmpmdoeaa.Lf
open Go.ChangeShapes Go.WideShapes Go.ChangeAt Go.RowKit
open Qu (Blk)
open By (Bys cellsB cellsB_length cellsB_at)
open Se (over over_length over_at noughts noughts_len)
open Dk (Sec secCells secCells_size secCells_at size_sector)
set_option linter.unusedVariables false

set_option maxHeartbeats 4000000 in
theorem rtake_any (w : World) (s : List UInt8) (hs : s.length = 64) :
    Calls Try.prog 17 #[.agg (secCells s)] w fun e w' => Took w w' e s := by
  obtain ⟨b9, hb9⟩ : ∃ b, s[9]? = some b := ⟨_, List.getElem?_eq_getElem (by omega)⟩
  obtain ⟨b8, hb8⟩ : ∃ b, s[8]? = some b := ⟨_, List.getElem?_eq_getElem (by omega)⟩
  have l9 := b9.toNat_lt
  have l8 := b8.toNat_lt
  have h9 : (s.getD 9 0).toNat = b9.toNat := by rw [List.getD, hb9]; rfl
  by_cases hbig : 46 < b9.toNat
  · have ht := takes_count hs (by rw [h9]; exact hbig)
    have HT := Lib.hid ht
    have HB : Hid (∀ W, Sec W w.heap.size s → W.cell? ⟨w.heap.size, 9, none⟩ = some (.int .u8 (b9.toNat : Int))) := Lib.hid (fun W h => by rw [h.2.cell, secCells_at, hb9]; rfl)
    clear h9 hb8 hb9 l8 ht b8
    generalize b9.toNat = y9 at *
    have y0 : (46 : Int) < (y9 : Int) := by omega
    have y1 : (y9 : Int) ≤ 255 := by omega
    go_enter Try.func17, Try.ntmps17
    go_wp2_with (first
      | (with_reducible refine Dk.box_sec (op := ⟨some 1, _, _, _, _, _⟩) rfl _ rfl _ rfl hs ?_; intro w0 hS0 hB0 hZ0)
      | (with_reducible refine new_leaf (w := w0) (op := ⟨some 2, _, _, _, _, _⟩) rfl rfl ?_; intro w1 hS1 hB1 hZ1; rw [hZ0] at hS1; have c9 := HB.out w1 (Sec.below hS0 hB1))
      | (with_reducible refine zero_leaf (op := ⟨some 13, _, _, _, _, _⟩) rfl rfl ?_)
      | ((with_reducible refine store_leaf (w := w1) (op := ⟨none, _, _, _, _, _⟩) ?_ (.tmp 2) (.tmp 13) ?_ _ ?_ ZeroC ?_ hS1 ?_ ZeroC_one ?_); (next => rfl); (next => rfl); (next => rfl); (next => rfl); (next => rfl); intro w2 hK2 hG2))
    refine bodyPost_ret (two_leaf rfl _ w2 (w.heap.size + 1) _ (.bool false) rfl hK2 rfl rfl rfl) rfl ?_
    unfold Took
    rw [HT.out]
    exact ⟨rfl, (hB0.trans (hB1.mono hB0.size)).grown hG2 (hB0.trans (hB1.mono hB0.size)).size (fun k hk => by injection hk with hk; omega)⟩
  · obtain ⟨L, hL⟩ : ∃ L, readB s = L := ⟨_, rfl⟩
    have he : L.epoch < 2 ^ 32 := by rw [← hL]; exact read_epoch s hs
    have hn : L.number < 2 ^ 32 := by rw [← hL]; exact read_number s hs
    have hL2 : L = ⟨val4 (cut s 0 4), val4 (cut s 4 4), b8.toNat % 2 == 1, b8.toNat / 2 % 2 == 1, cut s 10 b9.toNat⟩ := by
      rw [← hL]
      unfold readB
      rw [h9, List.getD, hb8, Nat.min_eq_left (by omega)]
      rfl
    have HE := Lib.hid (And.intro he hn)
    have HT : Hid (takesB s = (rightB L && (layB L == s)) ∧ readB s = L) := Lib.hid ⟨by unfold takesB; rw [hL], hL⟩
    have HL2 := Lib.hid hL2
    have hdl : L.data.length = b9.toNat := by rw [hL2]; exact cut_len (by omega)
    have HDL := Lib.hid hdl
    have HB : Hid (∀ W, Sec W w.heap.size s → W.cell? ⟨w.heap.size, 9, none⟩ = some (.int .u8 (b9.toNat : Int)) ∧ W.cell? ⟨w.heap.size, 8, none⟩ = some (.int .u8 (b8.toNat : Int))) := Lib.hid (fun W h => ⟨by rw [h.2.cell, secCells_at, hb9]; rfl, by rw [h.2.cell, secCells_at, hb8]; rfl⟩)
    obtain ⟨n1, p1, p3, p4⟩ := flag_one b8.toNat l8
    obtain ⟨n2, r1, r3, r4⟩ := flag_two b8.toNat l8
    clear h9 hb8 hb9 hL hL2 he hn hdl
    generalize b8.toNat = y8 at *
    generalize b9.toNat = y9 at *
    have y0 : ¬ (46 : Int) < (y9 : Int) := by omega
    have y1 : (y9 : Int) ≤ 46 := by omega
    have y2 : (0 : Int) ≤ (y9 : Int) := by omega
    have hsa := fun W => part_all w.heap.size W
    have hsl := fun W => part_lh w.heap.size 10 (10 + y9) 10 (10 + (y9 : Int)) rfl (by omega) (by omega) (by omega) (by omega) W
    rw [Nat.add_sub_cancel_left] at hsl
    go_enter Try.func17, Try.ntmps17
    go_wp2_with (first
      | (with_reducible refine Dk.box_sec (op := ⟨some 1, _, _, _, _, _⟩) rfl _ rfl _ rfl hs ?_; intro w0 hS0 hB0 hZ0)
      | (with_reducible refine new_leaf (w := w0) (op := ⟨some 2, _, _, _, _, _⟩) rfl rfl ?_; intro w1 hS1 hB1 hZ1; rw [hZ0] at hS1; obtain ⟨c9, c8⟩ := HB.out w1 (Sec.below hS0 hB1)))
    have H1 := Lib.hid (show Sec w1.drew w.heap.size s ∧ Below w.heap.size w w1.drew ∧ Leaf5 w1.drew (w.heap.size + 1) from ⟨Sec_drew (Sec.below hS0 hB1), (hB0.trans (hB1.mono hB0.size)).drew, hS1.drew⟩)
    have hw1 : w.heap.size + 1 < w1.heap.size := by omega
    have hwd : w.heap.size + 1 < w1.drew.heap.size := hw1
    have HF : Hid (∀ (wx : World) (B g5 c : Nat) (A : Option Addr), Blk wx g5 25 (LeafC (val4 (cut s 0 4)) (val4 (cut s 4 4)) (y8 % 2 == 1) (y8 / 2 % 2 == 1) A y9 c) → wx.ownsRow B 5 1 (.slice A y9 c) y9 (cellsB (cut s 10 y9)) → w.heap.size + 2 ≤ B →
        Blk wx g5 25 (LeafC L.epoch L.number L.first L.last A L.data.length c) ∧ wx.ownsRow (w.heap.size + 2) 5 1 (.slice A L.data.length c) L.data.length (cellsB L.data)) := Lib.hid (fun wx B g5 c A hb ho hB => by
      rw [HDL.out]
      have e := HL2.out
      have e0 : L.epoch = val4 (cut s 0 4) := by rw [e]
      have e1 : L.number = val4 (cut s 4 4) := by rw [e]
      have e2 : L.first = (y8 % 2 == 1) := by rw [e]
      have e3 : L.last = (y8 / 2 % 2 == 1) := by rw [e]
      have e4 : L.data = cut s 10 y9 := by rw [e]
      rw [e0, e1, e2, e3, e4]
      exact ⟨hb, own_lower ho hB⟩)
    have HK0 : Hid (∀ W, Sec W w.heap.size s → Calls Try.prog 31 #[.slice (some ⟨w.heap.size, 0, none⟩) 64 64, .int .i64 0] W fun e w' => e = .returned (.int .u32 (val4 (cut s 0 4) : Int)) ∧ W = w') := Lib.hid (fun W h => rfour_any W w.heap.size 0 s h (by omega))
    have HK1 : Hid (∀ W, Sec W w.heap.size s → Calls Try.prog 31 #[.slice (some ⟨w.heap.size, 0, none⟩) 64 64, .int .i64 4] W fun e w' => e = .returned (.int .u32 (val4 (cut s 4 4) : Int)) ∧ W = w') := Lib.hid (fun W h => rfour_any W w.heap.size 4 s h (by omega))
    clear hS0 hB0 hZ0 hS1 hB1 hZ1 c8 c9 l8 l9 hbig
    go_cut [5] (fun v wx => ∃ g5 A c, v = .pointer (some ⟨g5, 0, none⟩) ∧ Sec wx w.heap.size s ∧ Below w.heap.size w wx ∧ Leaf5 wx (w.heap.size + 1) ∧ Blk wx g5 25 (LeafC L.epoch L.number L.first L.last A L.data.length c) ∧ w.heap.size + 1 < g5 ∧ wx.ownsRow (w.heap.size + 2) 5 1 (.slice A L.data.length c) L.data.length (cellsB L.data))
    case first =>
      refine wp_region_held_drew (S := fun u => Sec u w.heap.size s ∧ Below w.heap.size w u ∧ Leaf5 u (w.heap.size + 1)) (by kernel_rfl) H1.out (fun h1 => ?_)
      refine wpAnyH_take (i := 0) (oi := ⟨some 14, _, _, _, _, _⟩) (v := .slice (some ⟨w.heap.size, 0, none⟩) 64 64) rfl (by kernel_rfl) (by kernel_rfl) (by kernel_rfl) (fun _ _ _ h => h) (Or.inl ⟨by rfl, fun wq hSw => ?_⟩) (by assumption) ?_
      · go_simp
      try simp only [Act.put, List.setIfInBounds_toArray, List.set_cons_zero, List.set_cons_succ]
      refine wpAnyH_take (i := 2) (oi := ⟨some 16, _, _, _, _, _⟩) (v := .slice (some ⟨w.heap.size, 0, none⟩) 64 64) rfl (by kernel_rfl) (by kernel_rfl) (by kernel_rfl) (fun _ _ _ h => h) (Or.inl ⟨by rfl, fun wq hSw => ?_⟩) (by assumption) ?_
      · go_simp
      try simp only [Act.put, List.setIfInBounds_toArray, List.set_cons_zero, List.set_cons_succ]
      refine wpAnyH_take (i := 4) (oi := ⟨some 18, _, _, _, _, _⟩) (v := .pointer (some ⟨w.heap.size, 8, none⟩)) rfl (by kernel_rfl) (by kernel_rfl) (by kernel_rfl) (fun _ _ _ h => h) (Or.inl ⟨by rfl, fun wq hSw => ?_⟩) (by assumption) ?_
      · go_simp
      try simp only [Act.put, List.setIfInBounds_toArray, List.set_cons_zero, List.set_cons_succ]
      refine wpAnyH_take (i := 5) (oi := ⟨some 19, _, _, _, _, _⟩) (v := .int .u8 (y8 : Int)) rfl (by kernel_rfl) (by kernel_rfl) (by kernel_rfl) (fun _ _ _ h => h) (Or.inl ⟨by rfl, fun wq hSw => ?_⟩) (by assumption) ?_
      · obtain ⟨c9, c8⟩ := HB.out wq hSw.1; go_simp
      try simp only [Act.put, List.setIfInBounds_toArray, List.set_cons_zero, List.set_cons_succ]
      refine wpAnyH_take (i := 6) (oi := ⟨some 20, _, _, _, _, _⟩) (v := .int .u8 (n1 : Int)) rfl (by kernel_rfl) (by kernel_rfl) (by kernel_rfl) (fun _ _ _ h => h) (Or.inl ⟨by rfl, fun wq hSw => ?_⟩) (by assumption) ?_
      · go_simp
      try simp only [Act.put, List.setIfInBounds_toArray, List.set_cons_zero, List.set_cons_succ]
      refine wpAnyH_take (i := 7) (oi := ⟨some 21, _, _, _, _, _⟩) (v := .bool (y8 % 2 == 1)) rfl (by kernel_rfl) (by kernel_rfl) (by kernel_rfl) (fun _ _ _ h => h) (Or.inl ⟨by rfl, fun wq hSw => ?_⟩) (by assumption) ?_
      · (go_simp; try exact p4)
      try simp only [Act.put, List.setIfInBounds_toArray, List.set_cons_zero, List.set_cons_succ]
      refine wpAnyH_take (i := 8) (oi := ⟨some 22, _, _, _, _, _⟩) (v := .pointer (some ⟨w.heap.size, 8, none⟩)) rfl (by kernel_rfl) (by kernel_rfl) (by kernel_rfl) (fun _ _ _ h => h) (Or.inl ⟨by rfl, fun wq hSw => ?_⟩) (by assumption) ?_
      · go_simp
      try simp only [Act.put, List.setIfInBounds_toArray, List.set_cons_zero, List.set_cons_succ]
      refine wpAnyH_take (i := 9) (oi := ⟨some 23, _, _, _, _, _⟩) (v := .int .u8 (y8 : Int)) rfl (by kernel_rfl) (by kernel_rfl) (by kernel_rfl) (fun _ _ _ h => h) (Or.inl ⟨by rfl, fun wq hSw => ?_⟩) (by assumption) ?_
      · obtain ⟨c9, c8⟩ := HB.out wq hSw.1; go_simp
      try simp only [Act.put, List.setIfInBounds_toArray, List.set_cons_zero, List.set_cons_succ]
      refine wpAnyH_take (i := 10) (oi := ⟨some 24, _, _, _, _, _⟩) (v := .int .u8 (n2 : Int)) rfl (by kernel_rfl) (by kernel_rfl) (by kernel_rfl) (fun _ _ _ h => h) (Or.inl ⟨by rfl, fun wq hSw => ?_⟩) (by assumption) ?_
      · go_simp
      try simp only [Act.put, List.setIfInBounds_toArray, List.set_cons_zero, List.set_cons_succ]
      refine wpAnyH_take (i := 11) (oi := ⟨some 25, _, _, _, _, _⟩) (v := .bool (y8 / 2 % 2 == 1)) rfl (by kernel_rfl) (by kernel_rfl) (by kernel_rfl) (fun _ _ _ h => h) (Or.inl ⟨by rfl, fun wq hSw => ?_⟩) (by assumption) ?_
      · (go_simp; try exact r4)
      try simp only [Act.put, List.setIfInBounds_toArray, List.set_cons_zero, List.set_cons_succ]
      refine wpAnyH_take (i := 12) (oi := ⟨some 26, _, _, _, _, _⟩) (v := .int .i64 (y9 : Int)) rfl (by kernel_rfl) (by kernel_rfl) (by kernel_rfl) (fun _ _ _ h => h) (Or.inl ⟨by rfl, fun wq hSw => ?_⟩) (by assumption) ?_
      · go_simp
      try simp only [Act.put, List.setIfInBounds_toArray, List.set_cons_zero, List.set_cons_succ]
      refine wpAnyH_take (i := 13) (oi := ⟨some 27, _, _, _, _, _⟩) (v := .int .i64 (10 + (y9 : Int))) rfl (by kernel_rfl) (by kernel_rfl) (by kernel_rfl) (fun _ _ _ h => h) (Or.inl ⟨by rfl, fun wq hSw => ?_⟩) (by assumption) ?_
      · (go_simp; exact IntWalk.i64_in _ (by omega))
      try simp only [Act.put, List.setIfInBounds_toArray, List.set_cons_zero, List.set_cons_succ]
      refine wpAnyH_take (i := 14) (oi := ⟨some 28, _, _, _, _, _⟩) (v := .slice (some ⟨w.heap.size, 10, none⟩) y9 54) rfl (by kernel_rfl) (by kernel_rfl) (by kernel_rfl) (fun _ _ _ h => h) (Or.inl ⟨by rfl, fun wq hSw => ?_⟩) (by assumption) ?_
      · go_simp
      try simp only [Act.put, List.setIfInBounds_toArray, List.set_cons_zero, List.set_cons_succ]
      refine wpAnyH_ready (rs := [1,17]) (by kernel_rfl) (by simp) ?_
      refine AllReadyH.cons (o := ⟨some 15, _, _, _, _, _⟩) rfl (fun K hK => ?_) ?_
      ·
        go_simp
        refine (HK0.out _ h1.1).mono ?_
        rintro e wz ⟨rfl, rfl⟩
        go_wp2_with fail
        refine hK.out _ _ h1 (fun h2 => ?_)
        clear hK K
        try simp only [Act.put, List.setIfInBounds_toArray, List.set_cons_zero, List.set_cons_succ]
        refine wpAnyH_ready (rs := [3,17]) (by kernel_rfl) (by simp) ?_
        refine AllReadyH.cons (o := ⟨some 17, _, _, _, _, _⟩) rfl (fun K hK => ?_) ?_
        ·
          go_simp
          refine (HK1.out _ h2.1).mono ?_
          rintro e wz ⟨rfl, rfl⟩
          go_wp2_with fail
          refine hK.out _ _ h2 (fun h3 => ?_)
          clear hK K
          try simp only [Act.put, List.setIfInBounds_toArray, List.set_cons_zero, List.set_cons_succ]
          refine wpAnyH_ready (rs := [15,17]) (by kernel_rfl) (by simp) ?_
          refine AllReadyH.cons (o := ⟨some 29, _, _, _, _, _⟩) rfl (fun K hK => ?_) ?_
          ·
            refine step_append_none (w := w1.drew) (by rfl) (.const (.slice none 0 0)) (.tmp 28) (by rfl) (by rfl) w1.drew.heap.size (some ⟨w.heap.size, 10, none⟩) y9 54 (cut s 10 y9) (by rfl) (part_bys h3.1 (by omega)) (by simp) (by omega) ?_
            intro vq wp owp kwp
            obtain ⟨A, c, rfl⟩ := Mv.own_value owp
            refine hK.out _ _ ⟨Sec.below h3.1 kwp, h3.2.1.trans (kwp.mono h3.2.1.size), h3.2.2.below kwp⟩ (fun h4 => ?_)
            clear hK K
            try simp only [Act.put, List.setIfInBounds_toArray, List.set_cons_zero, List.set_cons_succ]
            refine wpAnyH_take (i := 16) (oi := ⟨some 30, _, _, _, _, _⟩) (v := .agg (LeafC (val4 (cut s 0 4)) (val4 (cut s 4 4)) (y8 % 2 == 1) (y8 / 2 % 2 == 1) A y9 c)) rfl (by kernel_rfl) (by kernel_rfl) (by kernel_rfl) (fun _ _ _ h => h) (Or.inl ⟨by rfl, fun wq hSw => ?_⟩) (by assumption) ?_
            · (go_simp; try rfl)
            try simp only [Act.put, List.setIfInBounds_toArray, List.set_cons_zero, List.set_cons_succ]
            refine wpAnyH_ready (rs := [17]) (by kernel_rfl) (by simp) ?_
            refine AllReadyH.cons (o := ⟨some 5, _, _, _, _, _⟩) rfl (fun K hK => ?_) AllReadyH.nil
            have hwp : w.heap.size + 1 < wp.heap.size := by have := kwp.size; omega
            refine step_new_leaf (w := wp) (by rfl) (by rfl) ?_
            intro wa qwa kwa zwa
            refine hK.out _ _ ⟨Sec.below h4.1 kwa, h4.2.1.trans (kwa.mono h4.2.1.size), h4.2.2.below kwa⟩ (fun h5 => ?_)
            clear hK K
            try simp only [Act.put, List.setIfInBounds_toArray, List.set_cons_zero, List.set_cons_succ]
            refine wpAnyH_ready (rs := [18]) (by kernel_rfl) (by simp) ?_
            refine AllReadyH.cons (o := ⟨none, _, _, _, _, _⟩) rfl (fun K hK => ?_) AllReadyH.nil
            refine step_store_leaf (w := wa) (by rfl) (.tmp 5) (.tmp 30) (by rfl) wp.heap.size (by rfl) (LeafC (val4 (cut s 0 4)) (val4 (cut s 4 4)) (y8 % 2 == 1) (y8 / 2 % 2 == 1) A y9 c) (by rfl) qwa rfl (LeafC_one _ _ _ _ _ _ _) ?_
            intro ws bs gs
            refine hK.out _ _ ⟨Sec.far h5.1 gs (by omega), h5.2.1.grown gs h5.2.1.size (fun k hk => by injection hk with hk; omega), h5.2.2.far gs (by omega)⟩ (fun h6 => ?_)
            clear hK K
            refine wpAnyH_done (by kernel_rfl) ?_ _
            go_wp2_with fail
            go_meet
            obtain ⟨f1, f2⟩ := HF.out ws w1.drew.heap.size wp.heap.size c A bs (((Qu.row_below owp kwa)).kept gs (by
              cases hv : (Value.slice A y9 c).ownBlock with
              | none => exact .inl rfl
              | some g =>
                refine .inr fun e => ?_
                have := (owp.lt g hv).2
                injection e with e
                omega)) (by omega)
            exact ⟨wp.heap.size, A, c, rfl, h6.1, h6.2.1, h6.2.2, f1, hwp, f2⟩
          refine AllReadyH.cons (o := ⟨some 5, _, _, _, _, _⟩) rfl (fun K hK => ?_) AllReadyH.nil
          refine step_new_leaf (w := w1.drew) (by rfl) (by rfl) ?_
          intro wa qwa kwa zwa
          refine hK.out _ _ ⟨Sec.below h3.1 kwa, h3.2.1.trans (kwa.mono h3.2.1.size), h3.2.2.below kwa⟩ (fun h4 => ?_)
          clear hK K
          try simp only [Act.put, List.setIfInBounds_toArray, List.set_cons_zero, List.set_cons_succ]
          refine wpAnyH_ready (rs := [15]) (by kernel_rfl) (by simp) ?_
          refine AllReadyH.cons (o := ⟨some 29, _, _, _, _, _⟩) rfl (fun K hK => ?_) AllReadyH.nil
          refine step_append_none (w := wa) (by rfl) (.const (.slice none 0 0)) (.tmp 28) (by rfl) (by rfl) wa.heap.size (some ⟨w.heap.size, 10, none⟩) y9 54 (cut s 10 y9) (by rfl) (part_bys h4.1 (by omega)) (by simp) (by omega) ?_
          intro vq wp owp kwp
          obtain ⟨A, c, rfl⟩ := Mv.own_value owp
          refine hK.out _ _ ⟨Sec.below h4.1 kwp, h4.2.1.trans (kwp.mono h4.2.1.size), h4.2.2.below kwp⟩ (fun h5 => ?_)
          clear hK K
          try simp only [Act.put, List.setIfInBounds_toArray, List.set_cons_zero, List.set_cons_succ]
          refine wpAnyH_take (i := 16) (oi := ⟨some 30, _, _, _, _, _⟩) (v := .agg (LeafC (val4 (cut s 0 4)) (val4 (cut s 4 4)) (y8 % 2 == 1) (y8 / 2 % 2 == 1) A y9 c)) rfl (by kernel_rfl) (by kernel_rfl) (by kernel_rfl) (fun _ _ _ h => h) (Or.inl ⟨by rfl, fun wq hSw => ?_⟩) (by assumption) ?_
          · (go_simp; try rfl)
          try simp only [Act.put, List.setIfInBounds_toArray, List.set_cons_zero, List.set_cons_succ]
          refine wpAnyH_ready (rs := [18]) (by kernel_rfl) (by simp) ?_
          refine AllReadyH.cons (o := ⟨none, _, _, _, _, _⟩) rfl (fun K hK => ?_) AllReadyH.nil
          refine step_store_leaf (w := wp) (by rfl) (.tmp 5) (.tmp 30) (by rfl) w1.drew.heap.size (by rfl) (LeafC (val4 (cut s 0 4)) (val4 (cut s 4 4)) (y8 % 2 == 1) (y8 / 2 % 2 == 1) A y9 c) (by rfl) (qwa.below kwp) rfl (LeafC_one _ _ _ _ _ _ _) ?_
          intro ws bs gs
          refine hK.out _ _ ⟨Sec.far h5.1 gs (by omega), h5.2.1.grown gs h5.2.1.size (fun k hk => by injection hk with hk; omega), h5.2.2.far gs (by omega)⟩ (fun h6 => ?_)
          clear hK K
          refine wpAnyH_done (by kernel_rfl) ?_ _
          go_wp2_with fail
          go_meet
          obtain ⟨f1, f2⟩ := HF.out ws wa.heap.size w1.drew.heap.size c A bs (own_far owp gs (by omega)) (by omega)
          exact ⟨w1.heap.size, A, c, rfl, h6.1, h6.2.1, h6.2.2, f1, hw1, f2⟩
        refine AllReadyH.cons (o := ⟨some 5, _, _, _, _, _⟩) rfl (fun K hK => ?_) AllReadyH.nil
        refine step_new_leaf (w := w1.drew) (by rfl) (by rfl) ?_
        intro wa qwa kwa zwa
        refine hK.out _ _ ⟨Sec.below h2.1 kwa, h2.2.1.trans (kwa.mono h2.2.1.size), h2.2.2.below kwa⟩ (fun h3 => ?_)
        clear hK K
        try simp only [Act.put, List.setIfInBounds_toArray, List.set_cons_zero, List.set_cons_succ]
        refine wpAnyH_ready (rs := [3]) (by kernel_rfl) (by simp) ?_
        refine AllReadyH.cons (o := ⟨some 17, _, _, _, _, _⟩) rfl (fun K hK => ?_) AllReadyH.nil
        go_simp
        refine (HK1.out _ h3.1).mono ?_
        rintro e wz ⟨rfl, rfl⟩
        go_wp2_with fail
        refine hK.out _ _ h3 (fun h4 => ?_)
        clear hK K
        try simp only [Act.put, List.setIfInBounds_toArray, List.set_cons_zero, List.set_cons_succ]
        refine wpAnyH_ready (rs := [15]) (by kernel_rfl) (by simp) ?_
        refine AllReadyH.cons (o := ⟨some 29, _, _, _, _, _⟩) rfl (fun K hK => ?_) AllReadyH.nil
        refine step_append_none (w := wa) (by rfl) (.const (.slice none 0 0)) (.tmp 28) (by rfl) (by rfl) wa.heap.size (some ⟨w.heap.size, 10, none⟩) y9 54 (cut s 10 y9) (by rfl) (part_bys h4.1 (by omega)) (by simp) (by omega) ?_
        intro vq wp owp kwp
        obtain ⟨A, c, rfl⟩ := Mv.own_value owp
        refine hK.out _ _ ⟨Sec.below h4.1 kwp, h4.2.1.trans (kwp.mono h4.2.1.size), h4.2.2.below kwp⟩ (fun h5 => ?_)
        clear hK K
        try simp only [Act.put, List.setIfInBounds_toArray, List.set_cons_zero, List.set_cons_succ]
        refine wpAnyH_take (i := 16) (oi := ⟨some 30, _, _, _, _, _⟩) (v := .agg (LeafC (val4 (cut s 0 4)) (val4 (cut s 4 4)) (y8 % 2 == 1) (y8 / 2 % 2 == 1) A y9 c)) rfl (by kernel_rfl) (by kernel_rfl) (by kernel_rfl) (fun _ _ _ h => h) (Or.inl ⟨by rfl, fun wq hSw => ?_⟩) (by assumption) ?_
        · (go_simp; try rfl)
        try simp only [Act.put, List.setIfInBounds_toArray, List.set_cons_zero, List.set_cons_succ]
        refine wpAnyH_ready (rs := [18]) (by kernel_rfl) (by simp) ?_
        refine AllReadyH.cons (o := ⟨none, _, _, _, _, _⟩) rfl (fun K hK => ?_) AllReadyH.nil
        refine step_store_leaf (w := wp) (by rfl) (.tmp 5) (.tmp 30) (by rfl) w1.drew.heap.size (by rfl) (LeafC (val4 (cut s 0 4)) (val4 (cut s 4 4)) (y8 % 2 == 1) (y8 / 2 % 2 == 1) A y9 c) (by rfl) (qwa.below kwp) rfl (LeafC_one _ _ _ _ _ _ _) ?_
        intro ws bs gs
        refine hK.out _ _ ⟨Sec.far h5.1 gs (by omega), h5.2.1.grown gs h5.2.1.size (fun k hk => by injection hk with hk; omega), h5.2.2.far gs (by omega)⟩ (fun h6 => ?_)
        clear hK K
        refine wpAnyH_done (by kernel_rfl) ?_ _
        go_wp2_with fail
        go_meet
        obtain ⟨f1, f2⟩ := HF.out ws wa.heap.size w1.drew.heap.size c A bs (own_far owp gs (by omega)) (by omega)
        exact ⟨w1.heap.size, A, c, rfl, h6.1, h6.2.1, h6.2.2, f1, hw1, f2⟩
      refine AllReadyH.cons (o := ⟨some 5, _, _, _, _, _⟩) rfl (fun K hK => ?_) AllReadyH.nil
      refine step_new_leaf (w := w1.drew) (by rfl) (by rfl) ?_
      intro wa qwa kwa zwa
      refine hK.out _ _ ⟨Sec.below h1.1 kwa, h1.2.1.trans (kwa.mono h1.2.1.size), h1.2.2.below kwa⟩ (fun h2 => ?_)
      clear hK K
      try simp only [Act.put, List.setIfInBounds_toArray, List.set_cons_zero, List.set_cons_succ]
      refine wpAnyH_ready (rs := [1]) (by kernel_rfl) (by simp) ?_
      refine AllReadyH.cons (o := ⟨some 15, _, _, _, _, _⟩) rfl (fun K hK => ?_) AllReadyH.nil
      go_simp
      refine (HK0.out _ h2.1).mono ?_
      rintro e wz ⟨rfl, rfl⟩
      go_wp2_with fail
      refine hK.out _ _ h2 (fun h3 => ?_)
      clear hK K
      try simp only [Act.put, List.setIfInBounds_toArray, List.set_cons_zero, List.set_cons_succ]
      refine wpAnyH_ready (rs := [3]) (by kernel_rfl) (by simp) ?_
      refine AllReadyH.cons (o := ⟨some 17, _, _, _, _, _⟩) rfl (fun K hK => ?_) AllReadyH.nil
      go_simp
      refine (HK1.out _ h3.1).mono ?_
      rintro e wz ⟨rfl, rfl⟩
      go_wp2_with fail
      refine hK.out _ _ h3 (fun h4 => ?_)
      clear hK K
      try simp only [Act.put, List.setIfInBounds_toArray, List.set_cons_zero, List.set_cons_succ]
      refine wpAnyH_ready (rs := [15]) (by kernel_rfl) (by simp) ?_
      refine AllReadyH.cons (o := ⟨some 29, _, _, _, _, _⟩) rfl (fun K hK => ?_) AllReadyH.nil
      refine step_append_none (w := wa) (by rfl) (.const (.slice none 0 0)) (.tmp 28) (by rfl) (by rfl) wa.heap.size (some ⟨w.heap.size, 10, none⟩) y9 54 (cut s 10 y9) (by rfl) (part_bys h4.1 (by omega)) (by simp) (by omega) ?_
      intro vq wp owp kwp
      obtain ⟨A, c, rfl⟩ := Mv.own_value owp
      refine hK.out _ _ ⟨Sec.below h4.1 kwp, h4.2.1.trans (kwp.mono h4.2.1.size), h4.2.2.below kwp⟩ (fun h5 => ?_)
      clear hK K
      try simp only [Act.put, List.setIfInBounds_toArray, List.set_cons_zero, List.set_cons_succ]
      refine wpAnyH_take (i := 16) (oi := ⟨some 30, _, _, _, _, _⟩) (v := .agg (LeafC (val4 (cut s 0 4)) (val4 (cut s 4 4)) (y8 % 2 == 1) (y8 / 2 % 2 == 1) A y9 c)) rfl (by kernel_rfl) (by kernel_rfl) (by kernel_rfl) (fun _ _ _ h => h) (Or.inl ⟨by rfl, fun wq hSw => ?_⟩) (by assumption) ?_
      · (go_simp; try rfl)
      try simp only [Act.put, List.setIfInBounds_toArray, List.set_cons_zero, List.set_cons_succ]
      refine wpAnyH_ready (rs := [18]) (by kernel_rfl) (by simp) ?_
      refine AllReadyH.cons (o := ⟨none, _, _, _, _, _⟩) rfl (fun K hK => ?_) AllReadyH.nil
      refine step_store_leaf (w := wp) (by rfl) (.tmp 5) (.tmp 30) (by rfl) w1.drew.heap.size (by rfl) (LeafC (val4 (cut s 0 4)) (val4 (cut s 4 4)) (y8 % 2 == 1) (y8 / 2 % 2 == 1) A y9 c) (by rfl) (qwa.below kwp) rfl (LeafC_one _ _ _ _ _ _ _) ?_
      intro ws bs gs
      refine hK.out _ _ ⟨Sec.far h5.1 gs (by omega), h5.2.1.grown gs h5.2.1.size (fun k hk => by injection hk with hk; omega), h5.2.2.far gs (by omega)⟩ (fun h6 => ?_)
      clear hK K
      refine wpAnyH_done (by kernel_rfl) ?_ _
      go_wp2_with fail
      go_meet
      obtain ⟨f1, f2⟩ := HF.out ws wa.heap.size w1.drew.heap.size c A bs (own_far owp gs (by omega)) (by omega)
      exact ⟨w1.heap.size, A, c, rfl, h6.1, h6.2.1, h6.2.2, f1, hw1, f2⟩
    case rest =>
      obtain ⟨g5, A, c, rfl, q1, q2, q3, q4, q5, q6⟩ := hcut
      have H4 := Lib.hid (show Sec wc w.heap.size s ∧ Leaf5 wc (w.heap.size + 1) ∧ Blk wc g5 25 (LeafC L.epoch L.number L.first L.last A L.data.length c) ∧ Below w.heap.size w wc ∧ w.heap.size + 1 < g5 ∧ wc.ownsRow (w.heap.size + 2) 5 1 (.slice A L.data.length c) L.data.length (cellsB L.data) from ⟨q1, q3, q4, q2, q5, q6⟩)
      have hsl := layV_len L
      clear q1 q2 q3 q5 q6 HF HK0 HK1 HB H1 hw1 hwd HL2 HDL
      go_wp2_with (first
        | ((with_reducible refine load_leaf (w := wc) (op := ⟨some 32, _, _, _, _, _⟩) ?_ (.tmp 5) ?_ _ ?_ _ q4 ?_ ?_); (next => rfl); (next => rfl); (next => rfl); (next => rfl)))
      clear q4
      refine (rlayleaf_any wc L.epoch L.number L.data.length c L.first L.last A L.data (Bys.own H4.out.2.2.2.2.2) HE.out.1 HE.out.2).mono ?_
      rintro e w5 ⟨rfl, k5⟩
      have eL : (⟨L.epoch, L.number, L.first, L.last, L.data⟩ : Leaf) = L := rfl
      rw [eL]
      have H5 := Lib.hid (show Sec w5 w.heap.size s ∧ Leaf5 w5 (w.heap.size + 1) ∧ Blk w5 g5 25 (LeafC L.epoch L.number L.first L.last A L.data.length c) ∧ Below w.heap.size w w5 ∧ w.heap.size + 1 < g5 ∧ w5.ownsRow (w.heap.size + 2) 5 1 (.slice A L.data.length c) L.data.length (cellsB L.data) from
        ⟨Sec.below H4.out.1 k5, H4.out.2.1.below k5, H4.out.2.2.1.below k5, H4.out.2.2.2.1.trans (k5.mono H4.out.2.2.2.1.size), H4.out.2.2.2.2.1, Qu.row_below H4.out.2.2.2.2.2 k5⟩)
      clear k5 H4 eL
      obtain ⟨V, hV⟩ : ∃ V, layV L = V := ⟨_, rfl⟩
      rw [hV] at hsl ⊢
      obtain ⟨R, hR⟩ : ∃ R, rightB L = R := ⟨_, rfl⟩
      have hE2 : layE L = if R then 0 else 2 := by rw [← hR]; rfl
      have hV2 : V = if R then layB L else noughts := by rw [← hV, ← hR]; rfl
      rw [hE2]
      clear hE2
      have HV := Lib.hid (And.intro hR hV2)
      clear hR hV2 hV
      cases R with
      | false =>
        go_wp2_with (first
          | (with_reducible refine Dk.new_sec (w := w5) (op := ⟨some 6, _, _, _, _, _⟩) rfl rfl ?_; intro w6 hS6 hB6 hZ6)
          | ((with_reducible refine Dk.store_sec (w := w6) (op := ⟨none, _, _, _, _, _⟩) ?_ (.tmp 6) (.tmp 34) ?_ _ ?_ V ?_ _ hS6 hsl ?_); (next => rfl); (next => rfl); (next => rfl); (next => rfl); intro w7 hS7 hG7)
          | (with_reducible refine zero_leaf (op := ⟨some 43, _, _, _, _, _⟩) rfl rfl ?_)
          | ((with_reducible refine store_leaf (w := w7) (op := ⟨none, _, _, _, _, _⟩) ?_ (.tmp 2) (.tmp 43) ?_ (w.heap.size + 1) ?_ ZeroC ?_ ((H5.out.2.1.below hB6).far hG7 (by have := H5.out.2.2.1.lt; have := H5.out.2.2.2.2.1; omega)) ?_ ZeroC_one ?_); (next => rfl); (next => rfl); (next => rfl); (next => rfl); (next => rfl); intro w8 hK8 hG8))
        refine bodyPost_ret (two_leaf rfl _ w8 (w.heap.size + 1) _ (.bool false) rfl hK8 rfl rfl rfl) rfl ?_
        have ht : takesB s = false := by rw [HT.out.1, HV.out.1]; rfl
        unfold Took
        rw [ht]
        refine ⟨rfl, ?_⟩
        have h6 := H5.out.2.2.2.1.trans (hB6.mono H5.out.2.2.2.1.size)
        exact (h6.grown hG7 h6.size (fun k hk => by injection hk with hk; have := H5.out.2.2.2.1.size; omega)).grown hG8 (by have := (h6.grown hG7 h6.size (fun k hk => by injection hk with hk; have := H5.out.2.2.2.1.size; omega)).size; exact this) (fun k hk => by injection hk with hk; omega)
      | true =>
        obtain ⟨b, hb⟩ : ∃ b, (!(V == s)) = b := ⟨_, rfl⟩
        have HB := Lib.hid hb
        clear hb
        cases b with
        | true =>
          go_wp2_with (first
            | (with_reducible refine Dk.new_sec (w := w5) (op := ⟨some 6, _, _, _, _, _⟩) rfl rfl ?_; intro w6 hS6 hB6 hZ6)
            | ((with_reducible refine Dk.store_sec (w := w6) (op := ⟨none, _, _, _, _, _⟩) ?_ (.tmp 6) (.tmp 34) ?_ _ ?_ V ?_ _ hS6 hsl ?_); (next => rfl); (next => rfl); (next => rfl); (next => rfl); intro w7 hS7 hG7)
            | ((with_reducible refine load_sec_w (w := w7) (op := ⟨some 39, _, _, _, _, _⟩) ?_ (.tmp 6) ?_ _ ?_ _ hS7 ?_); (next => rfl); (next => rfl); (next => rfl))
            | ((with_reducible refine load_sec_w (w := w7) (op := ⟨some 40, _, _, _, _, _⟩) ?_ (.tmp 1) ?_ _ ?_ _ (Sec.far (Sec.below H5.out.1 hB6) hG7 (by have := H5.out.2.2.1.lt; have := H5.out.2.2.2.2.1; omega)) ?_); (next => rfl); (next => rfl); (next => rfl))
            | ((with_reducible refine neq_sec_w (op := ⟨some 41, _, _, _, _, _⟩) ?_ (.tmp 39) (.tmp 40) ?_ _ _ ?_ ?_ hsl hs true HB.out ?_); (next => rfl); (next => rfl); (next => rfl); (next => rfl))
            | (with_reducible refine zero_leaf (op := ⟨some 43, _, _, _, _, _⟩) rfl rfl ?_)
            | ((with_reducible refine store_leaf (w := w7) (op := ⟨none, _, _, _, _, _⟩) ?_ (.tmp 2) (.tmp 43) ?_ (w.heap.size + 1) ?_ ZeroC ?_ ((H5.out.2.1.below hB6).far hG7 (by have := H5.out.2.2.1.lt; have := H5.out.2.2.2.2.1; omega)) ?_ ZeroC_one ?_); (next => rfl); (next => rfl); (next => rfl); (next => rfl); (next => rfl); intro w8 hK8 hG8))
          refine bodyPost_ret (two_leaf rfl _ w8 (w.heap.size + 1) _ (.bool false) rfl hK8 rfl rfl rfl) rfl ?_
          have ht : takesB s = false := by
            rw [HT.out.1, HV.out.1]
            have h1 := HB.out
            rw [HV.out.2] at h1
            simpa using h1
          unfold Took
          rw [ht]
          refine ⟨rfl, ?_⟩
          have h6 := H5.out.2.2.2.1.trans (hB6.mono H5.out.2.2.2.1.size)
          exact (h6.grown hG7 h6.size (fun k hk => by injection hk with hk; have := H5.out.2.2.2.1.size; omega)).grown hG8 (by have := (h6.grown hG7 h6.size (fun k hk => by injection hk with hk; have := H5.out.2.2.2.1.size; omega)).size; exact this) (fun k hk => by injection hk with hk; omega)
        | false =>
          go_wp2_with (first
            | (with_reducible refine Dk.new_sec (w := w5) (op := ⟨some 6, _, _, _, _, _⟩) rfl rfl ?_; intro w6 hS6 hB6 hZ6)
            | ((with_reducible refine Dk.store_sec (w := w6) (op := ⟨none, _, _, _, _, _⟩) ?_ (.tmp 6) (.tmp 34) ?_ _ ?_ V ?_ _ hS6 hsl ?_); (next => rfl); (next => rfl); (next => rfl); (next => rfl); intro w7 hS7 hG7)
            | ((with_reducible refine load_sec_w (w := w7) (op := ⟨some 39, _, _, _, _, _⟩) ?_ (.tmp 6) ?_ _ ?_ _ hS7 ?_); (next => rfl); (next => rfl); (next => rfl))
            | ((with_reducible refine load_sec_w (w := w7) (op := ⟨some 40, _, _, _, _, _⟩) ?_ (.tmp 1) ?_ _ ?_ _ (Sec.far (Sec.below H5.out.1 hB6) hG7 (by have := H5.out.2.2.1.lt; have := H5.out.2.2.2.2.1; omega)) ?_); (next => rfl); (next => rfl); (next => rfl))
            | ((with_reducible refine neq_sec_w (op := ⟨some 41, _, _, _, _, _⟩) ?_ (.tmp 39) (.tmp 40) ?_ _ _ ?_ ?_ hsl hs false HB.out ?_); (next => rfl); (next => rfl); (next => rfl); (next => rfl))
            | ((with_reducible refine load_leaf (w := w7) (op := ⟨some 44, _, _, _, _, _⟩) ?_ (.tmp 5) ?_ _ ?_ _ ((H5.out.2.2.1.below hB6).grown hG7 (fun e => by have := H5.out.2.2.1.lt; injection e with e; omega)) ?_ ?_); (next => rfl); (next => rfl); (next => rfl); (next => rfl))
            | ((with_reducible refine store_leaf (w := w7) (op := ⟨none, _, _, _, _, _⟩) ?_ (.tmp 2) (.tmp 44) ?_ (w.heap.size + 1) ?_ (LeafC L.epoch L.number L.first L.last A L.data.length c) ?_ ((H5.out.2.1.below hB6).far hG7 (by have := H5.out.2.2.1.lt; have := H5.out.2.2.2.2.1; omega)) ?_ (LeafC_one _ _ _ _ _ _ _) ?_); (next => rfl); (next => rfl); (next => rfl); (next => rfl); (next => rfl); intro w8 hK8 hG8))
          refine bodyPost_ret (two_leaf rfl _ w8 (w.heap.size + 1) _ (.bool true) rfl hK8 rfl rfl rfl) rfl ?_
          have ht : takesB s = true := by
            rw [HT.out.1, HV.out.1]
            have h1 := HB.out
            rw [HV.out.2] at h1
            simpa using h1
          unfold Took
          rw [ht, HT.out.2]
          have h6 := H5.out.2.2.2.1.trans (hB6.mono H5.out.2.2.2.1.size)
          have h7 := h6.grown hG7 h6.size (fun k hk => by injection hk with hk; have := H5.out.2.2.2.1.size; omega)
          have h8 : w7.ownsRow (w.heap.size + 2) 5 1 (.slice A L.data.length c) L.data.length (cellsB L.data) := (Qu.row_below H5.out.2.2.2.2.2 hB6).kept hG7 (by
            cases hv : (Value.slice A L.data.length c).ownBlock with
            | none => exact .inl rfl
            | some g =>
              refine .inr fun e => ?_
              have := (H5.out.2.2.2.2.2.lt g hv).2
              injection e with e
              omega)
          exact ⟨A, c, rfl, own_lower (own_far h8 hG8 (by omega)) (by omega), h7.grown hG8 h7.size (fun k hk => by injection hk with hk; omega)⟩

end Go.Proofs.Ytbicdmhmpmdoeaa.Lf
