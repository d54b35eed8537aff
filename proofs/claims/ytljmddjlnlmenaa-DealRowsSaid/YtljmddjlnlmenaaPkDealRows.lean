/- P16.1: who is dearer pays: of two units of which one alone is cheaper it is the lesser one; a free unit among many is never the dearest; for every three numbers. No conditions. -/
import Derived.Test.YtljmddjlnlmenaaPk0
import Derived.Test.YtljmddjlnlmenaaPk25

set_option maxRecDepth 100000
namespace Go.Proofs.Ytljmddjlnlmenaa.dealRows
open Go.ChangeShapes Go.WideShapes Go.ChangeAt Go.RowKit
open Ap (Prm Unt kUnt row_Unt)
open Kd (Kind Row kInt row_int)
open Ko (Out Told Told2 At row_on)
open Dl
set_option maxRecDepth 100000
set_option linter.unusedVariables false
theorem own : ownKnob Try.prog.godebug = none := by kernel_rfl
set_option maxHeartbeats 8000000 in
theorem walk (w : World) (x : Int) (wx : (Lit.int .i64 x).wf = true) (y : Int) (wy : (Lit.int .i64 y).wf = true) (z : Int) (wz : (Lit.int .i64 z).wf = true) :
    Calls Try.prog 4 #[.int .i64 x, .int .i64 y, .int .i64 z] w fun e w' => e = .returned (.bool true) ∧ Below w.heap.size w w' := by
  have M := Lib.hid (fun (v : Int) => Mn.mod64_any v 3000 w (by decide) (by decide))
  clear wx wy wz
  go_enter Try.func4, Try.ntmps4
  go_wp2_with fail
  refine (M.out x).mono ?_
  rintro e wq ⟨⟨r1, h10, h11, rfl⟩, hw⟩
  obtain rfl := hw
  obtain ⟨a, hae⟩ : ∃ a, 1 + r1 = a := ⟨_, rfl⟩
  have wa1 : IntKind.i64.wrap (1 + r1) = a := by rw [hae]; exact IntWalk.i64_in _ (by omega)
  go_wp2_with fail
  refine (M.out y).mono ?_
  rintro e wq ⟨⟨r2, h20, h21, rfl⟩, hw⟩
  obtain rfl := hw
  obtain ⟨b, hbe⟩ : ∃ b, 1 + r2 = b := ⟨_, rfl⟩
  have wb1 : IntKind.i64.wrap (1 + r2) = b := by rw [hbe]; exact IntWalk.i64_in _ (by omega)
  go_wp2_with fail
  refine (M.out z).mono ?_
  rintro e wq ⟨⟨r3, h30, h31, rfl⟩, hw⟩
  obtain rfl := hw
  obtain ⟨c, hce⟩ : ∃ c, 1 + r3 = c := ⟨_, rfl⟩
  have wc1 : IntKind.i64.wrap (1 + r3) = c := by rw [hce]; exact IntWalk.i64_in _ (by omega)
  have ha : 1 ≤ a ∧ a ≤ 3000 := by omega
  have hb : 1 ≤ b ∧ b ≤ 3000 := by omega
  have hc : 1 ≤ c ∧ c ≤ 3000 := by omega
  have HABC := Lib.hid (And.intro ha (And.intro hb hc))
  obtain ⟨W1, hW1⟩ : ∃ W1, w.alloc (.cells #[.int .i64 a, .int .i64 b, .int .i64 c] 2) = W1 := ⟨_, rfl⟩
  have hb1 : Below w.heap.size w W1 := by rw [← hW1]; exact (Below.refl _ _).alloc (Nat.le_refl _) _
  have hl1 : Qu.Blk W1 w.heap.size 2 #[.int .i64 a, .int .i64 b, .int .i64 c] := by rw [← hW1]; exact Qu.Blk.new w _ _
  have HB1 := Lib.hid (And.intro hb1 hl1)
  have hw1 := Lib.hid hW1
  clear hb1 hl1 hW1 hae hbe hce h10 h11 h20 h21 h30 h31 ha hb hc
  go_wp2_with fail
  rw [hw1.out]
  clear hw1 wa1 wb1 wc1
  go_loopw [8, 9] (fun s8 s9 wr => ∃ k : Nat, s9 = .int .i64 k ∧ k ≤ 3 ∧ Hid (Out kUnt 34 W1 wr s8 ((u3 a b c).take k))) (fun _ s9 _ => 3 - (intOf s9).toNat)
  case atStart => exact ⟨0, rfl, by omega, Lib.hid (Out.nil _ _ (Below.refl _ _))⟩
  case round =>
    obtain ⟨k, rfl, hk, HO⟩ := hrel
    have kk : (0 : Int) ≤ (k : Int) := by omega
    by_cases hlt : k < 3
    · obtain ⟨v, hv, hv1, hv2⟩ : ∃ v, (u3 a b c)[k]? = some ⟨k, v, true⟩ ∧ W1.cell? ⟨w.heap.size, k, none⟩ = some (.int .i64 v) ∧ 1 ≤ v ∧ v ≤ 3000 := by
        match k, hlt with
        | 0, _ => exact ⟨a, rfl, HB1.out.2.cell 0, HABC.out.1⟩
        | 1, _ => exact ⟨b, rfl, HB1.out.2.cell 1, HABC.out.2.1⟩
        | 2, _ => exact ⟨c, rfl, HB1.out.2.cell 2, HABC.out.2.2⟩
      have y1 : wr.cell? ⟨w.heap.size, k, none⟩ = some (.int .i64 v) := (HO.out.below.cell (p := ⟨w.heap.size, _, none⟩) HB1.out.2.lt).trans hv1
      have HE := Lib.hid (Ct.take_next hv)
      have hlen : ((u3 a b c).take k).length = k := by rw [List.length_take]; show min k 3 = k; omega
      obtain ⟨ys, hys⟩ : ∃ ys, (u3 a b c).take k = ys := ⟨_, rfl⟩
      rw [hys] at HO hlen HE
      obtain ⟨C, e5, hv5⟩ := HO.out.own.value
      rw [hlen] at hv5
      subst hv5
      have hown := HO.out.own
      rw [hlen] at hown
      have HW := Lib.hid (And.intro hown hlen)
      have HOk : Hid (Ap.Unt.ok ⟨k, v, true⟩) := Lib.hid ⟨⟨by dsimp only; omega, by dsimp only; omega⟩, ⟨by dsimp only; omega, by dsimp only; omega⟩⟩
      have hlow := HO.out.below.size
      have k1 : (k : Int) < 3 := by omega
      clear hv hv1 hv2 hys hlen hown
      go_wp2_with (at_builtin; refine Kd.wpList_push (W := wr) (F := fun _ => False) (B := W1.heap.size) (n := k) (v := .slice C k e5) (xs := ys) (y := ⟨k, v, true⟩) (cs := [.int .i64 k, .int .i64 v, .bool true]) Ap.Unt.row_t rfl _ _ rfl rfl rfl rfl HW.out.1 (Ap.Unt_rep.2 ⟨rfl, HOk.out⟩) (by omega) (by omega) hlow (fun _ h => h.elim) ?_; intro g5 cap w' hown hgrow hfr; have HP := Lib.hid (HO.out.push HW.out.2 hown hgrow); clear hown hgrow hfr)
      go_roundw
      case rel => exact ⟨k + 1, by go_num, by omega, Lib.hid (by rw [HE.out]; exact HP.out)⟩
      case measure => simp [intOf]; omega
    · have k1 : ¬ (k : Int) < 3 := by omega
      obtain rfl : k = 3 := by omega
      have HO3 : Hid (Out kUnt 34 W1 wr u8 (u3 a b c)) := HO
      obtain ⟨A8, c8, e8⟩ := HO3.out.own.value
      have e9 : u8 = .slice A8 3 c8 := e8
      subst e9
      have hown : Kd.Own kUnt wr W1.heap.size 34 (fun _ => False) (.slice A8 3 c8) 3 (u3 a b c) := HO3.out.own
      obtain ⟨W3, hW3⟩ : ∃ W3, wr.alloc (.cells #[.int .i64 0, .int .i64 1] 3) = W3 := ⟨_, rfl⟩
      have hb3 : Below wr.heap.size wr W3 := by rw [← hW3]; exact (Below.refl _ _).alloc (Nat.le_refl _) _
      have hm3 : Qu.Blk W3 wr.heap.size 3 #[.int .i64 0, .int .i64 1] := by rw [← hW3]; exact Qu.Blk.new wr _ _
      obtain ⟨p1, p2, s1, hR1, hS1⟩ := rows2 HABC.out.1 HABC.out.2.1 HABC.out.2.2
      have hG := gw_holds (W := W3) (cl := false) (rate := 10000) (buy := 1) (get := 1) (by decide) (by decide) (by decide)
      have H3 := lbuyget_any (gwP false 10000 1 1) (noLay ⟨none, 0, 0⟩) A8 3 c8 (u3 a b c) (some ⟨wr.heap.size, 0, none⟩) 2 2 [0, 1] W3 hG (Ct.small_of hG (by decide) (by decide) (by decide) (by decide)) (row_on hown.read hb3) hown.fit (Ct.two_ints hm3) (by decide) (by decide)
      rw [hR1.is] at H3
      have H3b : Calls Try.prog 8 #[.agg #[.string ⟨#[97]⟩, .int .i64 3, .int .i64 0, .string ⟨#[]⟩, .string ⟨#[]⟩, .bool false, .slice none 0 0, .slice none 0 0, .int .i64 0, .int .i64 10000, .int .i64 0, .int .i64 1, .int .i64 1, .slice none 0 0, .slice none 0 0], .slice A8 3 c8, .slice (some ⟨wr.heap.size, 0, none⟩) 2 2] W3 fun e w' => ∃ (A : Option Addr) (c2 : Nat), e = .returned (.tuple #[.slice A 3 c2, .int .i64 s1]) ∧ Kd.Own kUnt w' W3.heap.size 34 (fun _ => False) (.slice A 3 c2) 3 [⟨0, p1, true⟩, ⟨1, p2, true⟩, ⟨2, c, true⟩] ∧ Below W3.heap.size W3 w' := H3
      have H3h := Lib.hid H3b
      have HQ3 := Lib.hid (And.intro hown hb3)
      have hw3 := Lib.hid hW3
      have HR1 := Lib.hid (And.intro hR1 hS1)
      clear hown hb3 hm3 hW3 hG H3 H3b hR1 hS1 e8 HO
      go_wp2_with fail
      rw [hw3.out]
      clear hw3
      refine H3h.out.mono ?_
      rintro e w4 ⟨A10, c10, rfl, ho4, hb4⟩
      have h34 := HQ3.out.2.trans (hb4.mono HQ3.out.2.size)
      obtain ⟨W5, hW5⟩ : ∃ W5, w4.alloc (.cells #[.int .i64 0, .int .i64 1, .int .i64 2] 3) = W5 := ⟨_, rfl⟩
      have hb5 : Below w4.heap.size w4 W5 := by rw [← hW5]; exact (Below.refl _ _).alloc (Nat.le_refl _) _
      have hm5 : Qu.Blk W5 w4.heap.size 3 #[.int .i64 0, .int .i64 1, .int .i64 2] := by rw [← hW5]; exact Qu.Blk.new w4 _ _
      have h35 := h34.trans (hb5.mono h34.size)
      obtain ⟨q1, q2, q3, s2, hR2, hS2⟩ := rows3 HABC.out.1 HABC.out.2.1 HABC.out.2.2
      have hG := gw_holds (W := W5) (cl := false) (rate := 10000) (buy := 2) (get := 1) (by decide) (by decide) (by decide)
      have H5 := lbuyget_any (gwP false 10000 2 1) (noLay ⟨none, 0, 0⟩) A8 3 c8 (u3 a b c) (some ⟨w4.heap.size, 0, none⟩) 3 3 [0, 1, 2] W5 hG (Ct.small_of hG (by decide) (by decide) (by decide) (by decide)) (row_on HQ3.out.1.read h35) HQ3.out.1.fit (three_ints hm5) (by decide) (by decide)
      rw [hR2.is] at H5
      have H5b : Calls Try.prog 8 #[.agg #[.string ⟨#[97]⟩, .int .i64 3, .int .i64 0, .string ⟨#[]⟩, .string ⟨#[]⟩, .bool false, .slice none 0 0, .slice none 0 0, .int .i64 0, .int .i64 10000, .int .i64 0, .int .i64 2, .int .i64 1, .slice none 0 0, .slice none 0 0], .slice A8 3 c8, .slice (some ⟨w4.heap.size, 0, none⟩) 3 3] W5 fun e w' => ∃ (A : Option Addr) (c2 : Nat), e = .returned (.tuple #[.slice A 3 c2, .int .i64 s2]) ∧ Kd.Own kUnt w' W5.heap.size 34 (fun _ => False) (.slice A 3 c2) 3 [⟨0, q1, true⟩, ⟨1, q2, true⟩, ⟨2, q3, true⟩] ∧ Below W5.heap.size W5 w' := H5
      have H5h := Lib.hid H5b
      have HQ5 := Lib.hid (And.intro ho4 (And.intro h34 (And.intro hb5 h35)))
      have hw5 := Lib.hid hW5
      have HR2 := Lib.hid (And.intro hR2 hS2)
      clear ho4 hb4 h34 hb5 hm5 h35 hW5 hG H5 H5b hR2 hS2 H3h
      go_wp2_with fail
      rw [hw5.out]
      clear hw5
      refine H5h.out.mono ?_
      rintro e w6 ⟨A12, c12, rfl, ho6, hb6⟩
      have h46 : Below w4.heap.size w4 w6 := HQ5.out.2.2.1.trans (hb6.mono HQ5.out.2.2.1.size)
      have h36 : Below wr.heap.size wr w6 := HQ5.out.2.1.trans (h46.mono HQ5.out.2.1.size)
      have h16 : Below W1.heap.size W1 w6 := HO3.out.below.trans (h36.mono HO3.out.below.size)
      obtain ⟨g8, e8, _, hg8⟩ := HQ3.out.1.first (by decide)
      obtain ⟨g10, e10, _, hg10⟩ := HQ5.out.1.first (by decide)
      obtain ⟨g12, e12, _, hg12⟩ := ho6.first (by decide)
      subst e8 e10 e12
      have hcu := unit3 HQ3.out.1
      have hca := unit3 HQ5.out.1
      have hcb := unit3 ho6
      have d0 : ∀ u, Below w6.heap.size w6 u → u.cell? ⟨w.heap.size, 0, none⟩ = some (.int .i64 a) := fun u hu => ((h16.trans (hu.mono h16.size)).cell (p := ⟨w.heap.size, _, none⟩) HB1.out.2.lt).trans (HB1.out.2.cell 0)
      have d1 : ∀ u, Below w6.heap.size w6 u → u.cell? ⟨w.heap.size, 1, none⟩ = some (.int .i64 b) := fun u hu => ((h16.trans (hu.mono h16.size)).cell (p := ⟨w.heap.size, _, none⟩) HB1.out.2.lt).trans (HB1.out.2.cell 1)
      have d2 : ∀ u, Below w6.heap.size w6 u → u.cell? ⟨w.heap.size, 2, none⟩ = some (.int .i64 c) := fun u hu => ((h16.trans (hu.mono h16.size)).cell (p := ⟨w.heap.size, _, none⟩) HB1.out.2.lt).trans (HB1.out.2.cell 2)
      have x0 := d0 w6 (Below.refl _ _)
      have x1 := d1 w6 (Below.refl _ _)
      have x2 := d2 w6 (Below.refl _ _)
      have f6 : ∀ u, Below w6.heap.size w6 u → u.cell? ⟨g8, 6, none⟩ = some (.int .i64 2) := fun u hu => ((h36.trans (hu.mono h36.size)).cell (p := ⟨g8, _, none⟩) hg8).trans hcu.2.2.2.2.2.2.1
      have f7 : ∀ u, Below w6.heap.size w6 u → u.cell? ⟨g8, 7, none⟩ = some (.int .i64 c) := fun u hu => ((h36.trans (hu.mono h36.size)).cell (p := ⟨g8, _, none⟩) hg8).trans hcu.2.2.2.2.2.2.2.1
      have f8 : ∀ u, Below w6.heap.size w6 u → u.cell? ⟨g8, 8, none⟩ = some (.bool true) := fun u hu => ((h36.trans (hu.mono h36.size)).cell (p := ⟨g8, _, none⟩) hg8).trans hcu.2.2.2.2.2.2.2.2
      have a1 : ∀ u, Below w6.heap.size w6 u → u.cell? ⟨g10, 1, none⟩ = some (.int .i64 p1) := fun u hu => ((h46.trans (hu.mono h46.size)).cell (p := ⟨g10, _, none⟩) hg10).trans hca.2.1
      have a4 : ∀ u, Below w6.heap.size w6 u → u.cell? ⟨g10, 4, none⟩ = some (.int .i64 p2) := fun u hu => ((h46.trans (hu.mono h46.size)).cell (p := ⟨g10, _, none⟩) hg10).trans hca.2.2.2.2.1
      have a6 : ∀ u, Below w6.heap.size w6 u → u.cell? ⟨g10, 6, none⟩ = some (.int .i64 2) := fun u hu => ((h46.trans (hu.mono h46.size)).cell (p := ⟨g10, _, none⟩) hg10).trans hca.2.2.2.2.2.2.1
      have a7 : ∀ u, Below w6.heap.size w6 u → u.cell? ⟨g10, 7, none⟩ = some (.int .i64 c) := fun u hu => ((h46.trans (hu.mono h46.size)).cell (p := ⟨g10, _, none⟩) hg10).trans hca.2.2.2.2.2.2.2.1
      have a8 : ∀ u, Below w6.heap.size w6 u → u.cell? ⟨g10, 8, none⟩ = some (.bool true) := fun u hu => ((h46.trans (hu.mono h46.size)).cell (p := ⟨g10, _, none⟩) hg10).trans hca.2.2.2.2.2.2.2.2
      have b1 : ∀ u, Below w6.heap.size w6 u → u.cell? ⟨g12, 1, none⟩ = some (.int .i64 q1) := fun u hu => (hu.cell (p := ⟨g12, _, none⟩) hg12).trans hcb.2.1
      have b4 : ∀ u, Below w6.heap.size w6 u → u.cell? ⟨g12, 4, none⟩ = some (.int .i64 q2) := fun u hu => (hu.cell (p := ⟨g12, _, none⟩) hg12).trans hcb.2.2.2.2.1
      have b7 : ∀ u, Below w6.heap.size w6 u → u.cell? ⟨g12, 7, none⟩ = some (.int .i64 q3) := fun u hu => (hu.cell (p := ⟨g12, _, none⟩) hg12).trans hcb.2.2.2.2.2.2.2.1
      have HAw := Lib.hid (fun W => awake_any W)
      have HB6 := Lib.hid (HB1.out.1.trans (h16.mono HB1.out.1.size))
      clear hcu hca hcb ho6 hb6 h46 h36 h16 hg8 hg10 hg12 H5h
      have hl := HR1.out.1.low
      have hh := HR1.out.1.high
      have hsu := HR1.out.1.sum
      have hl2 := HR2.out.1.low
      have hh2 := HR2.out.1.high
      have hsu2 := HR2.out.1.sum
      have hS := HR1.out.2
      have hS2 := HR2.out.2
      have hA := HABC.out
      obtain ⟨T, hT⟩ : ∃ T, p1 + p2 = T := ⟨_, rfl⟩
      obtain ⟨V1, hV1⟩ : ∃ T, a + b = T := ⟨_, rfl⟩
      obtain ⟨V, hV⟩ : ∃ T, V1 + c = T := ⟨_, rfl⟩
      obtain ⟨U1, hU1⟩ : ∃ T, q1 + q2 = T := ⟨_, rfl⟩
      obtain ⟨U, hU⟩ : ∃ T, U1 + q3 = T := ⟨_, rfl⟩
      have k1 : IntKind.i64.wrap (p1 + p2) = T := by rw [hT]; exact IntWalk.i64_in _ (by omega)
      have k2 : IntKind.i64.wrap (a + b) = V1 := by rw [hV1]; exact IntWalk.i64_in _ (by omega)
      have k3 : IntKind.i64.wrap (V1 + c) = V := by rw [hV]; exact IntWalk.i64_in _ (by omega)
      have k4 : IntKind.i64.wrap (q1 + q2) = U1 := by rw [hU1]; exact IntWalk.i64_in _ (by omega)
      have k5 : IntKind.i64.wrap (U1 + q3) = U := by rw [hU]; exact IntWalk.i64_in _ (by omega)
      have k6 : IntKind.i64.wrap (V - s2) = U := by rw [show V - s2 = U by omega]; exact IntWalk.i64_in _ (by omega)
      have m1 := fun W => min_two Try.prog #[2, 2] 2 hS W
      have m2 := fun W => min_three Try.prog #[2, 2, 2] 2 hS2 W
      have m3 := fun W => max_two Try.prog #[2, 2] 2 (a := a) (b := b) (m := T) (by omega) W
      clear hl hh hsu hl2 hh2 hsu2 hS hS2 hA hT hV1 hV hU1 hU
      go_wp2_with fail
      refine wp_region_held_drew (S := fun u => Below w6.heap.size w6 u) (by kernel_rfl) ((Below.refl _ _).drew) (fun hS0 => ?_)
      refine pkT 0 52 hS0 ?_
      try simp only [Act.put, pkA, pkB, pkC]
      refine pkT 1 53 hS0 ?_
      try simp only [Act.put, pkA, pkB, pkC]
      refine pkT 2 54 hS0 ?_
      try simp only [Act.put, pkA, pkB, pkC]
      refine pkT 3 55 hS0 ?_
      try simp only [Act.put, pkA, pkB, pkC]
      refine pkT 4 56 hS0 ?_
      try simp only [Act.put, pkA, pkB, pkC]
      refine pkT 5 57 hS0 ?_
      try simp only [Act.put, pkA, pkB, pkC]
      refine pkT 6 58 hS0 ?_
      try simp only [Act.put, pkA, pkB, pkC]
      refine pkT 7 59 hS0 ?_
      try simp only [Act.put, pkA, pkB, pkC]
      refine pkT 8 60 hS0 ?_
      try simp only [Act.put, pkA, pkB, pkC]
      refine pkT 9 61 hS0 ?_
      try simp only [Act.put, pkA, pkB, pkC]
      refine pkT 10 14 hS0 ?_
      try simp only [Act.put, pkA, pkB, pkC]
      refine wpAnyH_done (by kernel_rfl) ?_ _
      skip
      go_wp2_with fail
      refine wp_region_held_drew (S := fun u => Below w6.heap.size w6 u) (by kernel_rfl) ((Below.refl _ _).drew.drew) (fun hS0 => ?_)
      refine wpAnyH_ready (rs := [0]) (by kernel_rfl) (by simp) ?_
      refine AllReadyH.cons (o := ⟨some 62, _, _, _, _, _⟩) rfl (fun K hK => ?_) AllReadyH.nil
      go_simp
      refine (HAw.out _).mono ?_
      rintro e wa ⟨rfl, hba⟩
      have hya : Below w6.heap.size w6 wa := Below.trans hS0 (hba.mono (Below.size hS0))
      go_wp2_with fail
      refine hK.out _ _ (hya) (fun hS1 => ?_)
      clear hK K
      try simp only [Act.put, pkA, pkB, pkC]
      refine pkT 1 63 hS1 ?_
      try simp only [Act.put, pkA, pkB, pkC]
      refine pkT 2 64 hS1 ?_
      try simp only [Act.put, pkA, pkB, pkC]
      refine pkT 3 65 hS1 ?_
      try simp only [Act.put, pkA, pkB, pkC]
      refine pkT 4 66 hS1 ?_
      try simp only [Act.put, pkA, pkB, pkC]
      refine pkT 5 67 hS1 ?_
      try simp only [Act.put, pkA, pkB, pkC]
      refine pkT 6 68 hS1 ?_
      try simp only [Act.put, pkA, pkB, pkC]
      refine pkT 7 69 hS1 ?_
      try simp only [Act.put, pkA, pkB, pkC]
      refine pkT 8 70 hS1 ?_
      try simp only [Act.put, pkA, pkB, pkC]
      refine pkT 9 71 hS1 ?_
      try simp only [Act.put, pkA, pkB, pkC]
      refine pkT 10 72 hS1 ?_
      try simp only [Act.put, pkA, pkB, pkC]
      refine pkT 11 73 hS1 ?_
      try simp only [Act.put, pkA, pkB, pkC]
      refine pkT 12 74 hS1 ?_
      try simp only [Act.put, pkA, pkB, pkC]
      refine pkT 13 75 hS1 ?_
      try simp only [Act.put, pkA, pkB, pkC]
      refine pkT 14 76 hS1 ?_
      try simp only [Act.put, pkA, pkB, pkC]
      refine pkT 15 77 hS1 ?_
      try simp only [Act.put, pkA, pkB, pkC]
      refine pkT 16 78 hS1 ?_
      try simp only [Act.put, pkA, pkB, pkC]
      refine pkT 17 79 hS1 ?_
      try simp only [Act.put, pkA, pkB, pkC]
      refine pkT 18 80 hS1 ?_
      try simp only [Act.put, pkA, pkB, pkC]
      refine pkT 19 81 hS1 ?_
      try simp only [Act.put, pkA, pkB, pkC]
      refine pkT 20 82 hS1 ?_
      try simp only [Act.put, pkA, pkB, pkC]
      refine pkT 21 83 hS1 ?_
      try simp only [Act.put, pkA, pkB, pkC]
      refine pkT 22 84 hS1 ?_
      try simp only [Act.put, pkA, pkB, pkC]
      refine pkT 23 85 hS1 ?_
      try simp only [Act.put, pkA, pkB, pkC]
      refine pkT 24 86 hS1 ?_
      try simp only [Act.put, pkA, pkB, pkC]
      refine pkT 25 87 hS1 ?_
      try simp only [Act.put, pkA, pkB, pkC]
      refine pkT 26 88 hS1 ?_
      try simp only [Act.put, pkA, pkB, pkC]
      refine pkT 27 89 hS1 ?_
      try simp only [Act.put, pkA, pkB, pkC]
      refine pkT 28 90 hS1 ?_
      try simp only [Act.put, pkA, pkB, pkC]
      refine pkT 29 91 hS1 ?_
      try simp only [Act.put, pkA, pkB, pkC]
      refine pkT 30 92 hS1 ?_
      try simp only [Act.put, pkA, pkB, pkC]
      refine pkT 31 93 hS1 ?_
      try simp only [Act.put, pkA, pkB, pkC]
      refine pkT 32 94 hS1 ?_
      try simp only [Act.put, pkA, pkB, pkC]
      refine pkT 33 95 hS1 ?_
      try simp only [Act.put, pkA, pkB, pkC]
      refine pkT 34 96 hS1 ?_
      try simp only [Act.put, pkA, pkB, pkC]
      refine pkT 35 97 hS1 ?_
      try simp only [Act.put, pkA, pkB, pkC]
      refine pkT 36 98 hS1 ?_
      try simp only [Act.put, pkA, pkB, pkC]
      refine pkT 37 99 hS1 ?_
      try simp only [Act.put, pkA, pkB, pkC]
      refine pkT 38 100 hS1 ?_
      try simp only [Act.put, pkA, pkB, pkC]
      refine pkT 39 101 hS1 ?_
      try simp only [Act.put, pkA, pkB, pkC]
      refine pkT 40 102 hS1 ?_
      try simp only [Act.put, pkA, pkB, pkC]
      refine pkT 41 103 hS1 ?_
      try simp only [Act.put, pkA, pkB, pkC]
      refine pkT 42 104 hS1 ?_
      try simp only [Act.put, pkA, pkB, pkC]
      refine pkT 43 105 hS1 ?_
      try simp only [Act.put, pkA, pkB, pkC]
      refine pkT 44 106 hS1 ?_
      try simp only [Act.put, pkA, pkB, pkC]
      refine pkT 45 107 hS1 ?_
      try simp only [Act.put, pkA, pkB, pkC]
      refine pkT 46 108 hS1 ?_
      try simp only [Act.put, pkA, pkB, pkC]
      refine pkT 47 109 hS1 ?_
      try simp only [Act.put, pkA, pkB, pkC]
      refine pkT 48 110 hS1 ?_
      try simp only [Act.put, pkA, pkB, pkC]
      refine pkT 49 111 hS1 ?_
      try simp only [Act.put, pkA, pkB, pkC]
      refine pkT 50 112 hS1 ?_
      try simp only [Act.put, pkA, pkB, pkC]
      refine pkT 51 113 hS1 ?_
      try simp only [Act.put, pkA, pkB, pkC]
      refine pkT 52 114 hS1 ?_
      try simp only [Act.put, pkA, pkB, pkC]
      refine pkT 53 115 hS1 ?_
      try simp only [Act.put, pkA, pkB, pkC]
      refine pkT 54 116 hS1 ?_
      try simp only [Act.put, pkA, pkB, pkC]
      refine pkT 55 117 hS1 ?_
      try simp only [Act.put, pkA, pkB, pkC]
      refine pkT 56 118 hS1 ?_
      try simp only [Act.put, pkA, pkB, pkC]
      refine pkT 57 119 hS1 ?_
      try simp only [Act.put, pkA, pkB, pkC]
      refine pkT 58 120 hS1 ?_
      try simp only [Act.put, pkA, pkB, pkC]
      refine pkT 59 121 hS1 ?_
      try simp only [Act.put, pkA, pkB, pkC]
      refine pkT 60 122 hS1 ?_
      try simp only [Act.put, pkA, pkB, pkC]
      refine pkT 61 123 hS1 ?_
      try simp only [Act.put, pkA, pkB, pkC]
      refine pkT 62 124 hS1 ?_
      try simp only [Act.put, pkA, pkB, pkC]
      refine pkT 63 125 hS1 ?_
      try simp only [Act.put, pkA, pkB, pkC]
      refine pkT 64 126 hS1 ?_
      try simp only [Act.put, pkA, pkB, pkC]
      refine pkT 65 127 hS1 ?_
      try simp only [Act.put, pkA, pkB, pkC]
      refine pkT 66 128 hS1 ?_
      try simp only [Act.put, pkA, pkB, pkC]
      refine pkT 67 129 hS1 ?_
      try simp only [Act.put, pkA, pkB, pkC]
      refine pkT 68 130 hS1 ?_
      try simp only [Act.put, pkA, pkB, pkC]
      refine pkT 69 131 hS1 ?_
      try simp only [Act.put, pkA, pkB, pkC]
      refine pkT 70 132 hS1 ?_
      try simp only [Act.put, pkA, pkB, pkC]
      refine pkT 71 133 hS1 ?_
      try simp only [Act.put, pkA, pkB, pkC]
      refine pkT 72 134 hS1 ?_
      try simp only [Act.put, pkA, pkB, pkC]
      refine pkT 73 135 hS1 ?_
      try simp only [Act.put, pkA, pkB, pkC]
      refine pkT 74 136 hS1 ?_
      try simp only [Act.put, pkA, pkB, pkC]
      refine pkT 75 137 hS1 ?_
      try simp only [Act.put, pkA, pkB, pkC]
      refine pkT 76 138 hS1 ?_
      try simp only [Act.put, pkA, pkB, pkC]
      refine pkT 77 139 hS1 ?_
      try simp only [Act.put, pkA, pkB, pkC]
      refine pkT 78 140 hS1 ?_
      try simp only [Act.put, pkA, pkB, pkC]
      refine pkT 79 141 hS1 ?_
      try simp only [Act.put, pkA, pkB, pkC]
      refine pkT 80 142 hS1 ?_
      try simp only [Act.put, pkA, pkB, pkC]
      refine pkT 81 143 hS1 ?_
      try simp only [Act.put, pkA, pkB, pkC]
      refine pkT 82 144 hS1 ?_
      try simp only [Act.put, pkA, pkB, pkC]
      refine pkT 83 145 hS1 ?_
      try simp only [Act.put, pkA, pkB, pkC]
      refine pkT 84 146 hS1 ?_
      try simp only [Act.put, pkA, pkB, pkC]
      refine pkT 85 6 hS1 ?_
      try simp only [Act.put, pkA, pkB, pkC]
      refine wpAnyH_done (by kernel_rfl) ?_ _
      skip
      have HBa := Lib.hid (HB6.out.trans (hya.mono HB6.out.size))
      clear hS0 hya hba
      go_wp2
      go_ret
      exact ⟨rfl, HBa.out⟩
set_option maxRecDepth 100000 in
theorem lifted (os : Os) (started : os.Started) (H : Type) (enc : TypeId × Value → H) :
    ReturnsInHanded {} Try.checked os 4 .any (Rows.dealRowsSpec.pre6 enc Try.prog Try.f4 Rows.dealRowsRow.domain false) (Rows.dealRowsSpec.post enc Try.prog Try.f4 false true false false) := by
  refine returnsInHanded_of_change (C := Try.checked) own started (by kernel_rfl) Try.func4
    (ChangeSpec.witness6 (enc := enc) (C := Try.checked) false ⟨#[], #[.int .i64 0, .int .i64 0, .int .i64 0], []⟩ 8 (by kernel_rfl) (by kernel_rfl) (by kernel_rfl) (by kernel_rfl)) ?_
  intro W base args ds gs before hval0 hW hcnd _
  have hval : ∀ (j : Nat) t v, Try.f4.params[j]? = some t → args[j]? = some v → Value.okWide Try.prog W .any base t v := hval0
  have hW' := hW
  obtain ⟨p, q, hA0, hV, rfl, hfz, hnd⟩ := hW
  have hA : DataW.TrodAll enc Try.prog W 0 (fun _ => true) true Try.f4.params.toList args.toList ds p := hA0
  rw [Try.params4] at hA hval
  obtain ⟨v0, vs0, d0, ds0, p0, q0, hargs, rfl, rfl, h0, r0⟩ := trodAll_cons hA
  obtain ⟨v1, vs1, d1, ds1, p1, q1, rfl, rfl, rfl, h1, r1⟩ := trodAll_cons r0
  obtain ⟨v2, vs2, d2, ds2, p2, q2, rfl, rfl, rfl, h2, r2⟩ := trodAll_cons r1
  obtain ⟨rfl, rfl, rfl⟩ := trodAll_nil r2
  obtain rfl : args = #[v0, v1, v2] := by cases args; simp_all
  obtain ⟨a0, rfl, _, _, w0⟩ := open_int Try.underlying2 (hval 0 2 v0 rfl rfl) h0
  obtain ⟨a1, rfl, _, _, w1⟩ := open_int Try.underlying2 (hval 1 2 v1 rfl rfl) h1
  obtain ⟨a2, rfl, _, _, w2⟩ := open_int Try.underlying2 (hval 2 2 v2 rfl rfl) h2
  refine (walk W a0 w0 a1 w1 a2 w2).mono fun e W' ⟨he, hb⟩ => ?_
  subst he
  exact ⟨_, rfl, Hk.closeLaw (tb := 4) (by kernel_rfl) (by kernel_rfl) rfl rfl rfl Try.underlying4 hW' hb⟩
theorem over : Rows.dealRowsRow.holds Try.pinned (OpenSpec.ofChange Rows.dealRowsSpec) :=
  OpenClaim.holds_of_wide 4 Try.f4 rfl rfl rfl rfl rfl rfl rfl ⟨rfl, rfl, rfl, rfl, rfl⟩ rfl rfl rfl rfl rfl (by kernel_rfl) Try.func4 (by kernel_rfl)
    (of_decide_eq_true (by kernel_rfl)) (by unfold Func.isWrapper; first | (rw [if_pos (by decide +kernel)]; kernel_rfl) | (rw [if_neg (by decide +kernel)]; exact ⟨rfl, rfl⟩))
    (fun os started H enc _ => lifted os started H enc)
theorem proved : Rows.DealRowsSaid :=
  over
end Go.Proofs.Ytljmddjlnlmenaa.dealRows
