/- The document's Lay. -/
import Derived.Test.YtbicdmhmpmdoeaaLfC
import Derived.Test.YtbicdmhmpmdoeaaCrR
import Derived.StillTailTactics
namespace Go.Proofs.Ytbicdmhmpmdoeaa.Lf
open Go.ChangeShapes Go.WideShapes Go.ChangeAt Go.RowKit
open Qu (Blk)
open By (Bys cellsB cellsB_length cellsB_at)
open Se (over over_length over_at noughts noughts_len)
open Dk (Sec secCells secCells_size secCells_at size_sector)
set_option linter.unusedVariables false

theorem lay2_eight (l : Leaf) : (lay2 l)[8]? = some 0 := by
  unfold lay2
  rw [over_out (by rw [be4_len, lay1_len]; omega) (.inr (by rw [be4_len]; omega))]
  unfold lay1
  rw [over_out (by rw [be4_len, noughts_len]; omega) (.inr (by rw [be4_len]; omega))]
  rfl

theorem lay3_none (e n : Nat) (d : List UInt8) : lay3 ⟨e, n, false, false, d⟩ = lay2 ⟨e, n, false, false, d⟩ := by
  show (lay2 _).set 8 0 = _
  apply List.ext_getElem?
  intro k
  by_cases h : k = 8
  · subst h
    rw [List.getElem?_set_self (by rw [lay2_len]; omega), lay2_eight]
  · rw [set_out h]

/-- A byte of the leaf's data is laid. -/
theorem LayAt.data {w wk : World} {g i : Nat} {cs : Array Value} {t d : List UInt8} {b : UInt8} (h : LayAt w wk g cs (over t 10 (d.take i))) (hb : d[i]? = some b) : LayAt w (wk.setCell ⟨g, 10 + i, none⟩ (.int .u8 (b.toNat : Int))) g cs (over t 10 (d.take (i + 1))) := by
  have h1 := h.byte (10 + i) (b.toNat : Int) (by have := b.toNat_lt; omega)
  rw [Int.toNat_natCast, UInt8.ofNat_toNat, over_take hb] at h1
  exact h1

set_option maxHeartbeats 4000000 in
theorem rlay_right (w : World) (e n m c : Nat) (f l : Bool) (A : Option Addr) (d : List UInt8) (hb : Bys w w.heap.size A m d) (he : e < 2 ^ 32) (hn : n < 2 ^ 32) (hr : rightB ⟨e, n, f, l, d⟩ = true) :
    Calls Try.prog 13 #[.agg #[.int .u32 (e : Int), .int .u32 (n : Int), .bool f, .bool l, .slice A m c]] w fun en w' => en = .returned (.tuple #[.agg (secCells (layB ⟨e, n, f, l, d⟩)), .int .i64 0]) ∧ Below w.heap.size w w' := by
  have hm := hb.len
  have hr2 : e ≠ 0 ∧ 1 ≤ d.length ∧ d.length ≤ 46 ∧ (l = true ∨ d.length = 46) := (right_iff _).1 hr
  have m1 : (m : Int) ≤ 46 := by have := hr2.2.2.1; omega
  have m0 : (1 : Int) ≤ (m : Int) := by have := hr2.2.1; omega
  have HD := Lib.hid hb
  have HM := Lib.hid (show d.length = m ∧ 0 < m ∧ m ≤ 46 from ⟨hm, by omega, by omega⟩)
  have HR := Lib.hid hr
  have HE := Lib.hid (And.intro he hn)
  have hsa := fun g W => part_all g W
  clear hb hr2 hr hm he hn
  go_enter Try.func13, Try.ntmps13
  go_wp2_with (first
    | (refine Dk.new_sec (op := ⟨some 2, _, _, _, _, _⟩) rfl rfl ?_; intro w0 hS0 hB0 hZ0; have X0 := (Blk.new w 25 (LeafC e n f l A m c)).below hB0)
    | (refine Dk.new_sec (w := w0) (op := ⟨some 4, _, _, _, _, _⟩) rfl rfl ?_; intro w1 hS1 hB1 hZ1; obtain ⟨c0, c1, c2, c3, c4⟩ := box_cells (X0.below hB1)))
  rw [World.size_alloc] at hS0 hZ0
  obtain ⟨g, hg⟩ : ∃ g, w.heap.size + 1 + 1 = g := ⟨_, rfl⟩
  have H1 := Lib.hid (show LayAt w w1 g (LeafC e n f l A m c) noughts from
    ⟨X0.below hB1, Sec.below hS0 hB1, by rw [← hg, ← hZ0]; exact hS1, (((Below.refl w.heap.size w).alloc (Nat.le_refl _) (.cells (LeafC e n f l A m c) 25)).trans (hB0.mono (by simp))).trans (hB1.mono (by omega)), by omega⟩)
  rw [hg]
  clear hS0 hB0 hZ0 hS1 hB1 hZ1 X0 hg c0 c1 c2 c3 c4
  refine (rright_any w1 e n m c f l A d HM.out.1).mono ?_
  rintro en w3 ⟨rfl, k3⟩
  rw [HR.out]
  have H3 := Lib.hid (H1.out.later k3)
  clear k3 H1
  obtain ⟨c0, c1, c2, c3, c4⟩ := box_cells H3.out.box
  go_wp2_with fail
  go_still_tail 3, (by kernel_rfl)
  change wpList _ _ _ _ _ w3.drew
  have HD3 := Lib.hid H3.out.drew
  generalize w3.drew = w3d at *
  clear c0 c1 c2 c3 c4 H3
  go_wp2_with fail
  refine (rlay_any w3d g 0 e _ HD3.out.out (by omega) HE.out.1).mono ?_
  rintro en w4 ⟨rfl, s4, g4⟩
  have H4 := Lib.hid (show LayAt w w4 g (LeafC e n f l A m c) (lay1 ⟨e, n, f, l, d⟩) from HD3.out.turned s4 g4)
  clear s4 g4 HD3
  obtain ⟨c0, c1, c2, c3, c4⟩ := box_cells H4.out.box
  go_wp2_with fail
  go_still_tail 3, (by kernel_rfl)
  change wpList _ _ _ _ _ w4.drew
  have HD4 := Lib.hid H4.out.drew
  generalize w4.drew = w4d at *
  clear c0 c1 c2 c3 c4 H4
  go_wp2_with fail
  refine (rlay_any w4d g 4 n _ HD4.out.out (by omega) HE.out.2).mono ?_
  rintro en w5 ⟨rfl, s5, g5⟩
  have H5 := Lib.hid (show LayAt w w5 g (LeafC e n f l A m c) (lay2 ⟨e, n, f, l, d⟩) from HD4.out.turned s5 g5)
  clear s5 g5 HD4
  obtain ⟨c0, c1, c2, c3, c4⟩ := box_cells H5.out.box
  have b8 := H5.out.out.2.cell 8
  have f8 := H5.out.out.2.frozen 8
  rw [secCells_at, lay2_eight] at b8
  have b8 : w5.cell? ⟨g, 8, none⟩ = some (.int .u8 0) := b8
  have gw : w.heap.size ≠ g := by have := H5.out.low; omega
  cases f <;> cases l
  case' false.false =>
    go_upto_region 10 with (fail)
    have H7 := Lib.hid (show LayAt w w5 g (LeafC e n false false A m c) (lay3 ⟨e, n, false, false, d⟩) by rw [lay3_none]; exact H5.out)
    clear c0 c1 c2 c3 c4 b8 f8 gw H5
    generalize w5 = w7 at *
    obtain ⟨L, hL⟩ : ∃ L : Leaf, (⟨e, n, false, false, d⟩ : Leaf) = L := ⟨_, rfl⟩
    obtain ⟨C, hC⟩ : ∃ C, LeafC e n false false A m c = C := ⟨_, rfl⟩
    have HLL := Lib.hid (show L.data = d ∧ L.epoch = e from ⟨by rw [← hL], by rw [← hL]⟩)
    have HC := Lib.hid (show ∀ wk : World, Blk wk w.heap.size 25 C → wk.cell? ⟨w.heap.size, 0, none⟩ = some (.int .u32 (e : Int)) ∧ wk.cell? ⟨w.heap.size, 4, none⟩ = some (.slice A m c) from fun wk h => by
      rw [← hC] at h
      have h2 := box_cells h
      exact ⟨h2.1, h2.2.2.2.2⟩)
    rw [hL, hC] at H7
    have HL := Lib.hid hL
    clear hL hC
  case' false.true =>
    go_upto_region 10 with (fail)
    have h := H5.out.byte 8 2 (by omega)
    obtain ⟨w7, hw7⟩ : ∃ w7, w7 = w5.setCell ⟨g, 8, none⟩ (.int .u8 2) := ⟨_, rfl⟩
    rw [← hw7] at h ⊢
    have H7 := Lib.hid (show LayAt w w7 g (LeafC e n false true A m c) (lay3 ⟨e, n, false, true, d⟩) from h)
    clear c0 c1 c2 c3 c4 b8 f8 gw H5 hw7 h
    obtain ⟨L, hL⟩ : ∃ L : Leaf, (⟨e, n, false, true, d⟩ : Leaf) = L := ⟨_, rfl⟩
    obtain ⟨C, hC⟩ : ∃ C, LeafC e n false true A m c = C := ⟨_, rfl⟩
    have HLL := Lib.hid (show L.data = d ∧ L.epoch = e from ⟨by rw [← hL], by rw [← hL]⟩)
    have HC := Lib.hid (show ∀ wk : World, Blk wk w.heap.size 25 C → wk.cell? ⟨w.heap.size, 0, none⟩ = some (.int .u32 (e : Int)) ∧ wk.cell? ⟨w.heap.size, 4, none⟩ = some (.slice A m c) from fun wk h => by
      rw [← hC] at h
      have h2 := box_cells h
      exact ⟨h2.1, h2.2.2.2.2⟩)
    rw [hL, hC] at H7
    have HL := Lib.hid hL
    clear hL hC
  case' true.false =>
    go_upto_region 10 with (fail)
    have h := H5.out.byte 8 1 (by omega)
    obtain ⟨w7, hw7⟩ : ∃ w7, w7 = w5.setCell ⟨g, 8, none⟩ (.int .u8 1) := ⟨_, rfl⟩
    rw [← hw7] at h ⊢
    have H7 := Lib.hid (show LayAt w w7 g (LeafC e n true false A m c) (lay3 ⟨e, n, true, false, d⟩) from h)
    clear c0 c1 c2 c3 c4 b8 f8 gw H5 hw7 h
    obtain ⟨L, hL⟩ : ∃ L : Leaf, (⟨e, n, true, false, d⟩ : Leaf) = L := ⟨_, rfl⟩
    obtain ⟨C, hC⟩ : ∃ C, LeafC e n true false A m c = C := ⟨_, rfl⟩
    have HLL := Lib.hid (show L.data = d ∧ L.epoch = e from ⟨by rw [← hL], by rw [← hL]⟩)
    have HC := Lib.hid (show ∀ wk : World, Blk wk w.heap.size 25 C → wk.cell? ⟨w.heap.size, 0, none⟩ = some (.int .u32 (e : Int)) ∧ wk.cell? ⟨w.heap.size, 4, none⟩ = some (.slice A m c) from fun wk h => by
      rw [← hC] at h
      have h2 := box_cells h
      exact ⟨h2.1, h2.2.2.2.2⟩)
    rw [hL, hC] at H7
    have HL := Lib.hid hL
    clear hL hC
  case' true.true =>
    go_upto_region 10 with (fail)
    have h := (H5.out.byte 8 1 (by omega)).byte 8 3 (by omega)
    obtain ⟨w7, hw7⟩ : ∃ w7, w7 = (w5.setCell ⟨g, 8, none⟩ (.int .u8 1)).setCell ⟨g, 8, none⟩ (.int .u8 3) := ⟨_, rfl⟩
    rw [← hw7] at h ⊢
    have H7 := Lib.hid (show LayAt w w7 g (LeafC e n true true A m c) (lay3 ⟨e, n, true, true, d⟩) by
      have e3 : (((lay2 ⟨e, n, true, true, d⟩).set 8 (UInt8.ofNat (1 : Int).toNat)).set 8 (UInt8.ofNat (3 : Int).toNat)) = lay3 ⟨e, n, true, true, d⟩ := by
        rw [List.set_set]; rfl
      rw [← e3]
      exact h)
    clear c0 c1 c2 c3 c4 b8 f8 gw H5 hw7 h
    obtain ⟨L, hL⟩ : ∃ L : Leaf, (⟨e, n, true, true, d⟩ : Leaf) = L := ⟨_, rfl⟩
    obtain ⟨C, hC⟩ : ∃ C, LeafC e n true true A m c = C := ⟨_, rfl⟩
    have HLL := Lib.hid (show L.data = d ∧ L.epoch = e from ⟨by rw [← hL], by rw [← hL]⟩)
    have HC := Lib.hid (show ∀ wk : World, Blk wk w.heap.size 25 C → wk.cell? ⟨w.heap.size, 0, none⟩ = some (.int .u32 (e : Int)) ∧ wk.cell? ⟨w.heap.size, 4, none⟩ = some (.slice A m c) from fun wk h => by
      rw [← hC] at h
      have h2 := box_cells h
      exact ⟨h2.1, h2.2.2.2.2⟩)
    rw [hL, hC] at H7
    have HL := Lib.hid hL
    clear hL hC
  all_goals
    have x4 := HC.out _ H7.out.box
    obtain ⟨x0, x4⟩ := x4
    have b9 := H7.out.out.2.cell 9
    have f9 := H7.out.out.2.frozen 9
    obtain ⟨u9, hu9⟩ : ∃ u, (secCells (lay3 L))[9]? = some u := ⟨_, Array.getElem?_eq_getElem (by rw [secCells_size, lay3_len]; omega)⟩
    rw [hu9] at b9
    have HS : Hid (LayAt w (w7.setCell ⟨g, 9, none⟩ (.int .u8 (m : Int))) g C (lay4 L)) := Lib.hid (by
      have h := H7.out.byte 9 (m : Int) (by omega)
      rw [Int.toNat_natCast, ← HM.out.1, ← HLL.out.1] at h
      rw [← HM.out.1, ← HLL.out.1]
      exact h)
    clear hu9 H7 HR
    go_wp2_with fail
    go_loopw [5] (fun s5 wr => ∃ i : Nat, s5 = .int .i64 (i : Int) ∧ i ≤ m ∧ LayAt w wr g C (over (lay4 L) 10 (d.take i))) (fun s5 _ => m - (intOf s5).toNat)
    case atStart => exact ⟨0, rfl, by omega, HS.out⟩
    case round =>
      clear HS x0 x4 b9 f9
      obtain ⟨i, rfl, hi, hA⟩ := hrel
      have i0 : (0 : Int) ≤ (i : Int) := by omega
      have HA := Lib.hid hA
      clear hA
      obtain ⟨x0, x4⟩ := HC.out _ HA.out.box
      by_cases hlt : i < m
      · have i1 : (i : Int) < (m : Int) := by omega
        have i2 : decide (i < m) = true := by simp; omega
        obtain ⟨g', o', rfl, hg', hcell⟩ := (HD.out.below HA.out.below (Nat.le_refl _)).at (k := i) hlt
        obtain ⟨b, hb⟩ : ∃ b, d[i]? = some b := ⟨_, List.getElem?_eq_getElem (by have := HM.out.1; omega)⟩
        rw [By.at_some hb] at hcell
        have b1 := HA.out.out.2.cell (10 + i)
        have f1 := HA.out.out.2.frozen (10 + i)
        obtain ⟨u1, hu1⟩ : ∃ u, (secCells (over (lay4 L) 10 (d.take i)))[10 + i]? = some u := ⟨_, Array.getElem?_eq_getElem (by rw [secCells_size, over_length, lay4_len]; omega)⟩
        rw [hu1] at b1
        have HN := Lib.hid (HA.out.data hb)
        have hbl := b.toNat_lt
        generalize b.toNat = y at *
        have y0 : (0 : Int) ≤ (y : Int) := by omega
        have y1 : (y : Int) ≤ 255 := by omega
        clear hb hu1 HA
        go_wp2_with fail
        go_roundw
        case rel => exact ⟨i + 1, by go_num, by omega, HN.out⟩
        case measure => simp [intOf]; omega
      · obtain rfl : i = m := by omega
        have i1 : ¬ (i : Int) < (i : Int) := by omega
        have i2 : decide (i < i) = false := by simp
        have HF := Lib.hid (show LayAt w wr g C (lay5 L) by
          have h := HA.out
          rw [List.take_of_length_le (by rw [HM.out.1]; exact Nat.le_refl _)] at h
          unfold lay5
          rw [HLL.out.1]
          exact h)
        clear HA
        have hs6 := fun W => part_h g 56 56 rfl (by omega) W
        go_wp2_with fail
        have HG := Lib.hid HF.out.drew
        have HSUM := Lib.hid (Cr.rsum_any 56 64 wr.drew.heap.size (some ⟨g, 0, none⟩) ((lay5 L).take 56) wr.drew (by have h := part_bys (lo := 0) (n := 56) HG.out.out (by omega); rw [cut, Nat.zero_add, List.drop_zero] at h; exact h) (by omega))
        have HLAY := Lib.hid (rlay_any wr.drew g 56 (Cr.sum ((lay5 L).take 56)) _ HG.out.out (by omega) (Cr.more_lt _ _))
        clear x0 x4 HF
        go_region_law (first
          | (go_simp; go_at_call 15; refine HSUM.out.mono ?_; rintro en w9' ⟨rfl, rfl⟩)
          | (go_simp; go_at_call 27; refine HLAY.out.mono ?_; rintro en w10 ⟨rfl, s10, g10⟩))
        unfold Exit.then
        dsimp only
        have H10 := Lib.hid (show LayAt w w10 g C (lay6 L) from HG.out.turned s10 g10)
        clear s10 g10 HG hs6
        obtain ⟨x0, x4⟩ := HC.out _ H10.out.box
        go_wp2_with fail
        go_still_tail 3, (by kernel_rfl)
        change wpList _ _ _ _ _ w10.drew
        have H10d := Lib.hid H10.out.drew
        generalize w10.drew = w10d at *
        clear x0 x4 H10
        go_wp2_with fail
        refine (rlay_any w10d g 60 e _ H10d.out.out (by omega) HE.out.1).mono ?_
        rintro en w11 ⟨rfl, s11, g11⟩
        have H11 := Lib.hid (show LayAt w w11 g C (layB L) by
          have h := H10d.out.turned s11 g11
          rw [← HLL.out.2] at h
          exact h)
        clear s11 g11 H10d
        have hR := H11.out.res
        have hO := H11.out.out
        obtain ⟨S, hSe⟩ : ∃ S, layB L = S := ⟨_, rfl⟩
        have hSl : S.length = 64 := by rw [← hSe]; exact layB_len _
        rw [hSe] at hO
        go_wp2_with (first
          | ((with_reducible refine Dk.load_sec (op := ⟨some 58, _, _, _, _, _⟩) ?_ (.tmp 4) ?_ _ ?_ _ hO ?_); (next => rfl); (next => rfl); (next => rfl))
          | (refine Dk.store_sec (w := w11) rfl _ _ rfl _ rfl _ rfl _ hR hSl ?_; intro w12 hS12 hG12))
        refine bodyPost_ret (two_results rfl _ w12 (w.heap.size + 1) S (.int .i64 0) rfl hS12 rfl rfl) rfl ⟨by rw [HL.out, hSe], H11.out.below.grown hG12 H11.out.below.size (fun k hk => by injection hk with hk; omega)⟩

set_option maxHeartbeats 2000000 in
theorem rlay_wrong (w : World) (e n m c : Nat) (f l : Bool) (A : Option Addr) (d : List UInt8) (hm : d.length = m) (hr : rightB ⟨e, n, f, l, d⟩ = false) :
    Calls Try.prog 13 #[.agg #[.int .u32 (e : Int), .int .u32 (n : Int), .bool f, .bool l, .slice A m c]] w fun en w' => en = .returned (.tuple #[.agg (secCells noughts), .int .i64 2]) ∧ Below w.heap.size w w' := by
  have HR := Lib.hid hr
  clear hr
  go_enter Try.func13, Try.ntmps13
  go_wp2_with (first
    | (refine Dk.new_sec (op := ⟨some 2, _, _, _, _, _⟩) rfl rfl ?_; intro w0 hS0 hB0 hZ0; have X0 := (Blk.new w 25 (LeafC e n f l A m c)).below hB0)
    | (refine Dk.new_sec (w := w0) (op := ⟨some 4, _, _, _, _, _⟩) rfl rfl ?_; intro w1 hS1 hB1 hZ1; obtain ⟨c0, c1, c2, c3, c4⟩ := box_cells (X0.below hB1)))
  rw [World.size_alloc] at hS0 hZ0
  have H1 := Lib.hid (show Sec w1 (w.heap.size + 1) noughts ∧ Sec w1 (w.heap.size + 1 + 1) noughts ∧ Below w.heap.size w w1 from
    ⟨Sec.below hS0 hB1, by rw [← hZ0]; exact hS1, (((Below.refl w.heap.size w).alloc (Nat.le_refl _) (.cells (LeafC e n f l A m c) 25)).trans (hB0.mono (by simp))).trans (hB1.mono (by omega))⟩)
  clear hS0 hB0 hZ0 hS1 hB1 hZ1 X0 c0 c1 c2 c3 c4
  refine (rright_any w1 e n m c f l A d hm).mono ?_
  rintro en w2 ⟨rfl, k2⟩
  rw [HR.out]
  have hR := Sec.below H1.out.1 k2
  have hO := Sec.below H1.out.2.1 k2
  have HB := Lib.hid (H1.out.2.2.trans (k2.mono H1.out.2.2.size))
  clear k2 H1
  go_wp2_with (first
    | ((with_reducible refine Dk.load_sec (op := ⟨some 9, _, _, _, _, _⟩) ?_ (.tmp 4) ?_ _ ?_ _ hO ?_); (next => rfl); (next => rfl); (next => rfl))
    | (refine Dk.store_sec (w := w2) rfl _ _ rfl _ rfl _ rfl _ hR noughts_len ?_; intro w3 hS3 hG3))
  refine bodyPost_ret (two_results rfl _ w3 (w.heap.size + 1) noughts (.int .i64 2) rfl hS3 rfl rfl) rfl ⟨rfl, HB.out.grown hG3 HB.out.size (fun k hk => by injection hk with hk; omega)⟩

theorem rlayleaf_any (w : World) (e n m c : Nat) (f l : Bool) (A : Option Addr) (d : List UInt8) (hb : Bys w w.heap.size A m d) (he : e < 2 ^ 32) (hn : n < 2 ^ 32) :
    Calls Try.prog 13 #[.agg #[.int .u32 (e : Int), .int .u32 (n : Int), .bool f, .bool l, .slice A m c]] w fun en w' => en = .returned (.tuple #[.agg (secCells (layV ⟨e, n, f, l, d⟩)), .int .i64 (layE ⟨e, n, f, l, d⟩)]) ∧ Below w.heap.size w w' := by
  unfold layV layE
  cases hr : rightB ⟨e, n, f, l, d⟩ with
  | true => exact rlay_right w e n m c f l A d hb he hn hr
  | false => exact rlay_wrong w e n m c f l A d hb.len hr

end Go.Proofs.Ytbicdmhmpmdoeaa.Lf
