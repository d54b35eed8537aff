/- P7.1: what any 64 bytes are as a leaf, with or without the right sum; their mark. No conditions. -/
import Derived.Test.YtbicdmhmpmdoeaaLfO
import Derived.Test.YtbicdmhmpmdoeaaKitC
namespace Go.Proofs.Ytbicdmhmpmdoeaa.leafTakes
open Go.ChangeShapes Go.WideShapes Go.ChangeAt Go.RowKit
set_option linter.unusedVariables false

theorem own : ownKnob Try.prog.godebug = none := by kernel_rfl

/-- What the last region reads, in any later world. -/
theorem keep_takes {wk u : World} {g g6 g8 : Nat} {s : List UInt8} {C D : Array Value} (h1 : Dk.Sec wk g s) (h6 : Qu.Blk wk g6 25 C) (h8 : Qu.Blk wk g8 25 D) (hb : Below wk.heap.size wk u) : Dk.Sec u g s ∧ Qu.Blk u g6 25 C ∧ Qu.Blk u g8 25 D ∧ Below wk.heap.size wk u :=
  ⟨Lf.Sec.below h1 hb, h6.below hb, h8.below hb, hb⟩

set_option maxHeartbeats 8000000 in
theorem walk (w : World) (s : List UInt8) (hs : s.length = 64) (right : Bool) :
    Calls Try.prog 4 #[.agg (Dk.secCells s), .bool right] w fun e w' => e = .returned (.bool true) ∧ Below w.heap.size w w' := by
  have hsl := fun W => Lf.part_h w.heap.size 56 56 rfl (by omega) W
  have hsl4 := fun W => Lf.part_h w.heap.size 4 4 rfl (by omega) W
  have hsl6 := fun W => Lf.part_l w.heap.size 60 60 rfl (by omega) W
  go_enter Try.func4, Try.ntmps4
  cases right
  case' false =>
    go_upto_region 5 with (first
      | (with_reducible refine Dk.box_sec (op := ⟨some 2, _, _, _, _, _⟩) rfl _ rfl _ rfl hs ?_; intro wa hSa hBa hZa))
    obtain ⟨s1, HA, hs1⟩ : ∃ s1 : List UInt8, Hid (Dk.Sec wa w.heap.size s1 ∧ Below w.heap.size w wa) ∧ s1.length = 64 := ⟨s, Lib.hid (And.intro hSa hBa), hs⟩
    clear hSa hBa hZa hsl hsl4 hsl6
  case' true =>
    go_wp2_with (first
      | (with_reducible refine Dk.box_sec (op := ⟨some 2, _, _, _, _, _⟩) rfl _ rfl _ rfl hs ?_; intro w0 hS0 hB0 hZ0))
    have H0 := Lib.hid (And.intro hS0 hB0)
    clear hS0 hB0 hZ0
    refine (Cr.rsum_any 56 64 w0.heap.size (some ⟨w.heap.size, 0, none⟩) (s.take 56) w0 (by have h := Lf.part_bys (lo := 0) (n := 56) H0.out.1 (by omega); rw [Lf.cut, Nat.zero_add, List.drop_zero] at h; exact h) (by omega)).mono ?_
    rintro en w0' ⟨rfl, rfl⟩
    have hx := Cr.more_lt 0 (s.take 56)
    have hx2 : Cr.sum (s.take 56) < 2 ^ 32 := hx
    generalize Cr.sum (s.take 56) = X at *
    have X0 : (0 : Int) ≤ (X : Int) := by omega
    have X1 : (X : Int) ≤ 4294967295 := by omega
    have fz := fun k => H0.out.1.2.frozen k
    have gc : ∀ k, k < 64 → ∃ u, w0.cell? ⟨w.heap.size, k, none⟩ = some u := fun k hk => ⟨_, by rw [H0.out.1.2.cell, Array.getElem?_eq_getElem (by rw [Dk.secCells_size, hs]; exact hk)]⟩
    obtain ⟨u6, c6⟩ := gc 56 (by omega)
    obtain ⟨u7, c7⟩ := gc 57 (by omega)
    obtain ⟨u8, c8⟩ := gc 58 (by omega)
    obtain ⟨u9, c9⟩ := gc 59 (by omega)
    have f6 := fz 56
    have f7 := fz 57
    have f8 := fz 58
    have f9 := fz 59
    clear fz gc hx hx2
    go_upto_region 4 with (fail)
    obtain ⟨w1, hw1⟩ : ∃ w1, w1 = (((w0.setCell ⟨w.heap.size, 56, none⟩ (.int .u8 ((X : Int) / 16777216))).setCell ⟨w.heap.size, 57, none⟩ (.int .u8 ((X : Int) / 65536 % 256))).setCell ⟨w.heap.size, 58, none⟩ (.int .u8 ((X : Int) / 256 % 256))).setCell ⟨w.heap.size, 59, none⟩ (.int .u8 ((X : Int) % 256)) := ⟨_, rfl⟩
    obtain ⟨s0, HS1⟩ : ∃ s0 : List UInt8, Hid (Dk.Sec w1 w.heap.size s0 ∧ Below w.heap.size w w1) := ⟨_, Lib.hid (by
      rw [hw1]
      refine ⟨(((H0.out.1.byte (k := 56) ((X : Int) / 16777216) (by omega)).byte (k := 57) ((X : Int) / 65536 % 256) (by omega)).byte (k := 58) ((X : Int) / 256 % 256) (by omega)).byte (k := 59) ((X : Int) % 256) (by omega), ?_⟩
      exact (((H0.out.2.setCell (Nat.le_refl _) _).setCell (Nat.le_refl _) _).setCell (Nat.le_refl _) _).setCell (Nat.le_refl _) _)⟩
    have hs0 := HS1.out.1.1
    rw [← hw1]
    clear hw1 c6 c7 c8 c9 f6 f7 f8 f9 H0 hsl X0 X1
    have hY := Lib.hid (Lf.part_bys (lo := 0) (n := 4) (Lf.Sec_drew HS1.out.1) (by omega))
    go_region_law (first | (refine Lf.step_copy_in (by rfl) (.tmp 28) (.tmp 29) (by rfl) w.heap.size 60 4 4 4 64 w1.drew.heap.size (some ⟨w.heap.size, 0, none⟩) s0 (Lf.cut s0 0 4) (by rfl) (by rfl) (Lf.Sec_drew HS1.out.1) hY.out (by omega) (by omega) ?_; intro wa sa ga))
    unfold Exit.then
    dsimp only
    obtain ⟨s1, HA, hs1⟩ : ∃ s1 : List UInt8, Hid (Dk.Sec wa w.heap.size s1 ∧ Below w.heap.size w wa) ∧ s1.length = 64 := ⟨_, Lib.hid (And.intro sa (HS1.out.2.drew.grown ga HS1.out.2.size (fun k hk => by injection hk with hk; omega))), sa.1⟩
    clear sa ga hY HS1 hsl4 hsl6
    go_upto_region 5 with (fail)
  all_goals
    have hSa := HA.out.1
    go_wp2_with (first
      | ((with_reducible refine Dk.load_sec (w := wa) (op := ⟨some 32, _, _, _, _, _⟩) ?_ (.tmp 2) ?_ _ ?_ _ hSa ?_); (next => rfl); (next => rfl); (next => rfl)))
    clear hSa
    refine (Lf.take_any wa s1 hs1).mono ?_
    rintro en wb ht
    obtain ⟨A, c, rfl, hY, kb⟩ := Lf.took_as ht
    obtain ⟨L, hL⟩ : ∃ L, Lf.tookL s1 = L := ⟨_, rfl⟩
    obtain ⟨T, hT⟩ : ∃ T, Lf.takesB s1 = T := ⟨_, rfl⟩
    rw [hL] at hY ⊢
    rw [hT]
    have HT := Lib.hid (And.intro hL hT)
    have HB := Lib.hid (show Dk.Sec wb w.heap.size s1 ∧ Below w.heap.size w wb ∧ By.Bys wb wb.heap.size A L.data.length L.data from ⟨Lf.Sec.below HA.out.1 kb, HA.out.2.trans (kb.mono HA.out.2.size), hY⟩)
    clear ht hY kb hL hT HA
    go_upto_region 6 with (first
      | (with_reducible refine Lf.new_leaf (w := wb) (op := ⟨some 6, _, _, _, _, _⟩) rfl rfl ?_; intro wc hLc hBc hZc)
      | ((with_reducible refine Lf.store_leaf (w := wc) (op := ⟨none, _, _, _, _, _⟩) ?_ (.tmp 6) (.tmp 34) ?_ _ ?_ (Lf.LeafC L.epoch L.number L.first L.last A L.data.length c) ?_ hLc ?_ (Lf.LeafC_one _ _ _ _ _ _ _) ?_); (next => rfl); (next => rfl); (next => rfl); (next => rfl); (next => rfl); intro wd hKd hGd))
    obtain ⟨g6, hg6⟩ : ∃ g6, wb.heap.size = g6 := ⟨_, rfl⟩
    have kd : Below wb.heap.size wb wd := hBc.grown hGd hBc.size (fun k hk => by injection hk with hk; omega)
    rw [hg6] at hKd ⊢
    have HD := Lib.hid (show Dk.Sec wd w.heap.size s1 ∧ Below w.heap.size w wd ∧ By.Bys wd wd.heap.size A L.data.length L.data ∧ Qu.Blk wd g6 25 (Lf.LeafC L.epoch L.number L.first L.last A L.data.length c) from ⟨Lf.Sec.below HB.out.1 kd, HB.out.2.1.trans (kd.mono HB.out.2.1.size), (HB.out.2.2.below kd (Nat.le_refl _)).size, hKd⟩)
    clear hLc hBc hZc hKd hGd kd hg6 HB
    have hSd := HD.out.1
    go_wp2_with (first
      | ((with_reducible refine Dk.load_sec (w := wd) (op := ⟨some 37, _, _, _, _, _⟩) ?_ (.tmp 2) ?_ _ ?_ _ hSd ?_); (next => rfl); (next => rfl); (next => rfl)))
    clear hSd
    refine (Lf.rtake_any wd s1 hs1).mono ?_
    rintro en we ht
    obtain ⟨A2, c2, rfl, hY, ke⟩ := Lf.took_as ht
    rw [HT.out.1] at hY ⊢
    rw [HT.out.2]
    have HE := Lib.hid (show Dk.Sec we w.heap.size s1 ∧ Below w.heap.size w we ∧ By.Bys we we.heap.size A L.data.length L.data ∧ Qu.Blk we g6 25 (Lf.LeafC L.epoch L.number L.first L.last A L.data.length c) ∧ By.Bys we we.heap.size A2 L.data.length L.data from ⟨Lf.Sec.below HD.out.1 ke, HD.out.2.1.trans (ke.mono HD.out.2.1.size), (HD.out.2.2.1.below ke (Nat.le_refl _)).size, HD.out.2.2.2.below ke, hY⟩)
    clear ht hY ke HD HT
    go_upto_region 7 with (first
      | (with_reducible refine Lf.new_leaf (w := we) (op := ⟨some 8, _, _, _, _, _⟩) rfl rfl ?_; intro wf hLf hBf hZf)
      | ((with_reducible refine Lf.store_leaf (w := wf) (op := ⟨none, _, _, _, _, _⟩) ?_ (.tmp 8) (.tmp 39) ?_ _ ?_ (Lf.LeafC L.epoch L.number L.first L.last A2 L.data.length c2) ?_ hLf ?_ (Lf.LeafC_one _ _ _ _ _ _ _) ?_); (next => rfl); (next => rfl); (next => rfl); (next => rfl); (next => rfl); intro wk hKk hGk))
    obtain ⟨g8, hg8⟩ : ∃ g8, we.heap.size = g8 := ⟨_, rfl⟩
    have kk : Below we.heap.size we wk := hBf.grown hGk hBf.size (fun k hk => by injection hk with hk; omega)
    rw [hg8] at hKk ⊢
    have HK := Lib.hid (show Dk.Sec wk w.heap.size s1 ∧ Below w.heap.size w wk ∧ Qu.Blk wk g6 25 (Lf.LeafC L.epoch L.number L.first L.last A L.data.length c) ∧ Qu.Blk wk g8 25 (Lf.LeafC L.epoch L.number L.first L.last A2 L.data.length c2) ∧ By.Bys wk wk.heap.size A L.data.length L.data ∧ By.Bys wk wk.heap.size A2 L.data.length L.data from
      ⟨Lf.Sec.below HE.out.1 kk, HE.out.2.1.trans (kk.mono HE.out.2.1.size), HE.out.2.2.2.1.below kk, hKk, (HE.out.2.2.1.below kk (Nat.le_refl _)).size, (HE.out.2.2.2.2.below kk (Nat.le_refl _)).size⟩)
    clear hLf hBf hZf hKk hGk kk hg8 HE
    have MA : Hid (∀ W, Below wk.heap.size wk W → Calls Try.prog 9 #[] W fun e w' => e = .returned (.bool true) ∧ Below wk.heap.size wk w') := Lib.hid (fun W hW => (Lf.awake_any W).mono fun e w' ⟨he, hb⟩ => ⟨he, hW.trans (hb.mono hW.size)⟩)
    have ML : Hid (∀ W, Below wk.heap.size wk W → Calls Try.prog 18 #[.agg #[.int .u32 (L.epoch : Int), .int .u32 (L.number : Int), .bool L.first, .bool L.last, .slice A L.data.length c], .agg #[.int .u32 (L.epoch : Int), .int .u32 (L.number : Int), .bool L.first, .bool L.last, .slice A2 L.data.length c2]] W fun e w' => e = .returned (.bool true) ∧ Below wk.heap.size wk w') := Lib.hid (fun W hW =>
      (Lf.same_leaf W L.epoch L.number L.data.length c L.data.length c2 L.first L.last A A2 L.data (HK.out.2.2.2.2.1.below hW (Nat.le_refl _)).size (HK.out.2.2.2.2.2.below hW (Nat.le_refl _)).size).mono fun e w' ⟨he, hb⟩ => ⟨he, hW.trans (hb.mono hW.size)⟩)
    have MM : Hid (∀ W, Below wk.heap.size wk W → Calls Try.prog 19 #[.agg (Dk.secCells s1)] W fun e w' => e = .returned (.int .u32 (Lf.markN s1 : Int)) ∧ Below wk.heap.size wk w') := Lib.hid (fun W hW =>
      (Lf.mark_any W s1 hs1).mono fun e w' ⟨he, hb⟩ => ⟨he, hW.trans (hb.mono hW.size)⟩)
    have MR : Hid (∀ W, Below wk.heap.size wk W → Calls Try.prog 20 #[.agg (Dk.secCells s1)] W fun e w' => e = .returned (.int .u32 (Lf.markN s1 : Int)) ∧ Below wk.heap.size wk w') := Lib.hid (fun W hW =>
      (Lf.rmark_any W s1 hs1).mono fun e w' ⟨he, hb⟩ => ⟨he, hW.trans (hb.mono hW.size)⟩)
    generalize Lf.markN s1 = M at *
    refine wp_region_held_drew (S := fun u => Dk.Sec u w.heap.size s1 ∧ Qu.Blk u g6 25 (Lf.LeafC L.epoch L.number L.first L.last A L.data.length c) ∧ Qu.Blk u g8 25 (Lf.LeafC L.epoch L.number L.first L.last A2 L.data.length c2) ∧ Below wk.heap.size wk u) (by kernel_rfl) (keep_takes HK.out.1 HK.out.2.2.1 HK.out.2.2.2.1 (Below.refl _ _).drew) (fun h0 => ?_)
    refine wpAnyH_ready (rs := [0]) (by kernel_rfl) (by simp) ?_
    refine AllReadyH.cons (o := ⟨some 41, _, _, _, _, _⟩) rfl (fun K hK => ?_) AllReadyH.nil
    go_simp
    refine (MA.out _ h0.2.2.2).mono ?_
    rintro e wA ⟨rfl, hzwA⟩
    go_wp2_with fail
    refine hK.out _ _ (keep_takes HK.out.1 HK.out.2.2.1 HK.out.2.2.2.1 hzwA) (fun h1 => ?_)
    clear hK K
    try simp only [Act.put, List.setIfInBounds_toArray, List.set_cons_zero, List.set_cons_succ]
    refine wpAnyH_take (i := 1) (oi := ⟨some 42, _, _, _, _, _⟩) (v := .bool true) rfl (by kernel_rfl) (by kernel_rfl) (by kernel_rfl) (fun _ _ _ h => h) (Or.inl ⟨by rfl, fun wq hSw => ?_⟩) (by assumption) ?_
    · go_simp
    try simp only [Act.put, List.setIfInBounds_toArray, List.set_cons_zero, List.set_cons_succ]
    refine wpAnyH_take (i := 2) (oi := ⟨some 43, _, _, _, _, _⟩) (v := .bool T) rfl (by kernel_rfl) (by kernel_rfl) (by kernel_rfl) (fun _ _ _ h => h) (Or.inl ⟨by rfl, fun wq hSw => ?_⟩) (by assumption) ?_
    · go_simp
    try simp only [Act.put, List.setIfInBounds_toArray, List.set_cons_zero, List.set_cons_succ]
    refine wpAnyH_take (i := 3) (oi := ⟨some 44, _, _, _, _, _⟩) (v := .bool T) rfl (by kernel_rfl) (by kernel_rfl) (by kernel_rfl) (fun _ _ _ h => h) (Or.inl ⟨by rfl, fun wq hSw => ?_⟩) (by assumption) ?_
    · go_simp
    try simp only [Act.put, List.setIfInBounds_toArray, List.set_cons_zero, List.set_cons_succ]
    refine wpAnyH_take (i := 4) (oi := ⟨some 45, _, _, _, _, _⟩) (v := .bool true) rfl (by kernel_rfl) (by kernel_rfl) (by kernel_rfl) (fun _ _ _ h => h) (Or.inl ⟨by rfl, fun wq hSw => ?_⟩) (by assumption) ?_
    · go_simp
    try simp only [Act.put, List.setIfInBounds_toArray, List.set_cons_zero, List.set_cons_succ]
    refine wpAnyH_take (i := 5) (oi := ⟨some 46, _, _, _, _, _⟩) (v := .bool true) rfl (by kernel_rfl) (by kernel_rfl) (by kernel_rfl) (fun _ _ _ h => h) (Or.inl ⟨by rfl, fun wq hSw => ?_⟩) (by assumption) ?_
    · go_simp
    try simp only [Act.put, List.setIfInBounds_toArray, List.set_cons_zero, List.set_cons_succ]
    refine wpAnyH_take (i := 6) (oi := ⟨some 47, _, _, _, _, _⟩) (v := .bool true) rfl (by kernel_rfl) (by kernel_rfl) (by kernel_rfl) (fun _ _ _ h => h) (Or.inl ⟨by rfl, fun wq hSw => ?_⟩) (by assumption) ?_
    · go_simp
    try simp only [Act.put, List.setIfInBounds_toArray, List.set_cons_zero, List.set_cons_succ]
    refine wpAnyH_take (i := 7) (oi := ⟨some 48, _, _, _, _, _⟩) (v := .agg #[.int .u32 (L.epoch : Int), .int .u32 (L.number : Int), .bool L.first, .bool L.last, .slice A L.data.length c]) rfl (by kernel_rfl) (by kernel_rfl) (by kernel_rfl) (fun _ _ _ h => h) (Or.inl ⟨by rfl, fun wq hSw => ?_⟩) (by assumption) ?_
    · (obtain ⟨q0, q1, q2, q3, q4⟩ := Lf.box_cells hSw.2.1; go_simp)
    try simp only [Act.put, List.setIfInBounds_toArray, List.set_cons_zero, List.set_cons_succ]
    refine wpAnyH_take (i := 8) (oi := ⟨some 49, _, _, _, _, _⟩) (v := .agg #[.int .u32 (L.epoch : Int), .int .u32 (L.number : Int), .bool L.first, .bool L.last, .slice A2 L.data.length c2]) rfl (by kernel_rfl) (by kernel_rfl) (by kernel_rfl) (fun _ _ _ h => h) (Or.inl ⟨by rfl, fun wq hSw => ?_⟩) (by assumption) ?_
    · (obtain ⟨q0, q1, q2, q3, q4⟩ := Lf.box_cells hSw.2.2.1; go_simp)
    try simp only [Act.put, List.setIfInBounds_toArray, List.set_cons_zero, List.set_cons_succ]
    refine wpAnyH_ready (rs := [9]) (by kernel_rfl) (by simp) ?_
    refine AllReadyH.cons (o := ⟨some 50, _, _, _, _, _⟩) rfl (fun K hK => ?_) AllReadyH.nil
    go_simp
    refine (ML.out _ h1.2.2.2).mono ?_
    rintro e wB ⟨rfl, hzwB⟩
    go_wp2_with fail
    refine hK.out _ _ (keep_takes HK.out.1 HK.out.2.2.1 HK.out.2.2.2.1 hzwB) (fun h2 => ?_)
    clear hK K
    try simp only [Act.put, List.setIfInBounds_toArray, List.set_cons_zero, List.set_cons_succ]
    refine wpAnyH_take (i := 10) (oi := ⟨some 51, _, _, _, _, _⟩) (v := .bool true) rfl (by kernel_rfl) (by kernel_rfl) (by kernel_rfl) (fun _ _ _ h => h) (Or.inl ⟨by rfl, fun wq hSw => ?_⟩) (by assumption) ?_
    · go_simp
    try simp only [Act.put, List.setIfInBounds_toArray, List.set_cons_zero, List.set_cons_succ]
    refine wpAnyH_take (i := 11) (oi := ⟨some 52, _, _, _, _, _⟩) (v := .bool true) rfl (by kernel_rfl) (by kernel_rfl) (by kernel_rfl) (fun _ _ _ h => h) (Or.inl ⟨by rfl, fun wq hSw => ?_⟩) (by assumption) ?_
    · go_simp
    try simp only [Act.put, List.setIfInBounds_toArray, List.set_cons_zero, List.set_cons_succ]
    refine wpAnyH_take (i := 12) (oi := ⟨some 53, _, _, _, _, _⟩) (v := .agg (Dk.secCells s1)) rfl (by kernel_rfl) (by kernel_rfl) (by kernel_rfl) (fun _ _ _ h => h) (Lf.yields_sec (by rfl) _ rfl w.heap.size rfl s1 (fun _ h => h.1)) (by assumption) ?_
    try simp only [Act.put, List.setIfInBounds_toArray, List.set_cons_zero, List.set_cons_succ]
    refine wpAnyH_take (i := 14) (oi := ⟨some 55, _, _, _, _, _⟩) (v := .agg (Dk.secCells s1)) rfl (by kernel_rfl) (by kernel_rfl) (by kernel_rfl) (fun _ _ _ h => h) (Lf.yields_sec (by rfl) _ rfl w.heap.size rfl s1 (fun _ h => h.1)) (by assumption) ?_
    try simp only [Act.put, List.setIfInBounds_toArray, List.set_cons_zero, List.set_cons_succ]
    refine wpAnyH_ready (rs := [13]) (by kernel_rfl) (by simp) ?_
    refine AllReadyH.cons (o := ⟨some 54, _, _, _, _, _⟩) rfl (fun K hK => ?_) AllReadyH.nil
    go_simp
    refine (MM.out _ h2.2.2.2).mono ?_
    rintro e wC ⟨rfl, hzwC⟩
    go_wp2_with fail
    refine hK.out _ _ (keep_takes HK.out.1 HK.out.2.2.1 HK.out.2.2.2.1 hzwC) (fun h3 => ?_)
    clear hK K
    try simp only [Act.put, List.setIfInBounds_toArray, List.set_cons_zero, List.set_cons_succ]
    refine wpAnyH_ready (rs := [15]) (by kernel_rfl) (by simp) ?_
    refine AllReadyH.cons (o := ⟨some 56, _, _, _, _, _⟩) rfl (fun K hK => ?_) AllReadyH.nil
    go_simp
    refine (MR.out _ h3.2.2.2).mono ?_
    rintro e wD ⟨rfl, hzwD⟩
    go_wp2_with fail
    refine hK.out _ _ (keep_takes HK.out.1 HK.out.2.2.1 HK.out.2.2.2.1 hzwD) (fun h4 => ?_)
    clear hK K
    try simp only [Act.put, List.setIfInBounds_toArray, List.set_cons_zero, List.set_cons_succ]
    refine wpAnyH_take (i := 16) (oi := ⟨some 57, _, _, _, _, _⟩) (v := .bool true) rfl (by kernel_rfl) (by kernel_rfl) (by kernel_rfl) (fun _ _ _ h => h) (Or.inl ⟨by rfl, fun wq hSw => ?_⟩) (by assumption) ?_
    · go_simp
    try simp only [Act.put, List.setIfInBounds_toArray, List.set_cons_zero, List.set_cons_succ]
    refine wpAnyH_take (i := 17) (oi := ⟨some 58, _, _, _, _, _⟩) (v := .bool true) rfl (by kernel_rfl) (by kernel_rfl) (by kernel_rfl) (fun _ _ _ h => h) (Or.inl ⟨by rfl, fun wq hSw => ?_⟩) (by assumption) ?_
    · go_simp
    try simp only [Act.put, List.setIfInBounds_toArray, List.set_cons_zero, List.set_cons_succ]
    refine wpAnyH_take (i := 18) (oi := ⟨some 4, _, _, _, _, _⟩) (v := .bool true) rfl (by kernel_rfl) (by kernel_rfl) (by kernel_rfl) (fun _ _ _ h => h) (Or.inl ⟨by rfl, fun wq hSw => ?_⟩) (by assumption) ?_
    · go_simp
    try simp only [Act.put, List.setIfInBounds_toArray, List.set_cons_zero, List.set_cons_succ]
    refine wpAnyH_done (by kernel_rfl) ?_ _
    unfold Exit.then
    dsimp only
    go_wp2
    go_ret
    exact ⟨rfl, HK.out.2.1.trans (h4.2.2.2.mono HK.out.2.1.size)⟩

set_option maxRecDepth 100000 in
theorem lifted (os : Os) (started : os.Started) (H : Type) (enc : TypeId × Value → H) :
    ReturnsInHanded {} Try.checked os 4 .any (Rows.leafTakesSpec.pre6 enc Try.prog Try.f4 Rows.leafTakesRow.domain false) (Rows.leafTakesSpec.post enc Try.prog Try.f4 false true false false) := by
  refine returnsInHanded_of_change (C := Try.checked) own started (by kernel_rfl) Try.func4
    (ChangeSpec.witness6 (enc := enc) (C := Try.checked) false ⟨#[], #[.agg (Array.replicate 64 (.int .u8 0)), .bool false], []⟩ 8 (by kernel_rfl) (by kernel_rfl) (by kernel_rfl) (by kernel_rfl)) ?_
  intro W base args ds gs before hval0 hW hcnd _
  have hval : ∀ (j : Nat) t v, Try.f4.params[j]? = some t → args[j]? = some v → Value.okWide Try.prog W .any base t v := hval0
  have hW' := hW
  obtain ⟨p, q, hA0, hV, rfl, hfz, hnd⟩ := hW
  have hA : DataW.TrodAll enc Try.prog W 0 (fun _ => true) true Try.f4.params.toList args.toList ds p := hA0
  rw [Try.params4] at hA hval
  obtain ⟨v0, vs0, d0, ds0, p0, q0, hargs, rfl, rfl, h0, r0⟩ := trodAll_cons hA
  obtain ⟨v1, vs1, d1, ds1, p1, q1, rfl, rfl, rfl, h1, r1⟩ := trodAll_cons r0
  obtain ⟨rfl, rfl, rfl⟩ := trodAll_nil r1
  obtain rfl : args = #[v0, v1] := by cases args; simp_all
  obtain ⟨s0, x0, rfl⟩ := Lf.open_sec (hval 0 29 v0 rfl rfl) h0
  obtain ⟨a1, rfl, _, _⟩ := open_bool Try.underlying4 (hval 1 4 v1 rfl rfl) h1
  refine (walk W s0 x0 a1).mono fun e W' ⟨he, hb⟩ => ?_
  subst he
  exact ⟨_, rfl, Hk.closeLaw (tb := 4) (by kernel_rfl) (by kernel_rfl) rfl rfl rfl Try.underlying4 hW' hb⟩

theorem over : Rows.leafTakesRow.holds Try.pinned (OpenSpec.ofChange Rows.leafTakesSpec) :=
  OpenClaim.holds_of_wide 4 Try.f4 rfl rfl rfl rfl rfl rfl rfl ⟨rfl, rfl, rfl, rfl, rfl⟩ rfl rfl rfl rfl rfl (by kernel_rfl) Try.func4 (by kernel_rfl)
    (of_decide_eq_true (by kernel_rfl)) (by unfold Func.isWrapper; first | (rw [if_pos (by decide +kernel)]; kernel_rfl) | (rw [if_neg (by decide +kernel)]; exact ⟨rfl, rfl⟩))
    (fun os started H enc _ => lifted os started H enc)

/-- The statement. -/
theorem proved : Rows.LeafTakesSaid :=
  over
end Go.Proofs.Ytbicdmhmpmdoeaa.leafTakes
