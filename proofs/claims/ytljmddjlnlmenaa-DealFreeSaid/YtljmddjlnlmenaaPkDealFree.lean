/- P16.1: of units of one price just so many are cheaper as whole rows have, and the first ones are dear; for every five numbers. No conditions. -/
import Derived.Test.YtljmddjlnlmenaaPk0
import Derived.Test.YtljmddjlnlmenaaPk26

set_option maxRecDepth 100000
namespace Go.Proofs.Ytljmddjlnlmenaa.dealFree
open Go.ChangeShapes Go.WideShapes Go.ChangeAt Go.RowKit
open Ap (Prm Unt kUnt row_Unt)
open Kd (Kind Row kInt row_int)
open Ko (Out Told Told2 At row_on)
open Dl
open Ct (nth nth_some UnitsMay take_next)
set_option maxRecDepth 100000
set_option linter.unusedVariables false
theorem own : ownKnob Try.prog.godebug = none := by kernel_rfl
set_option maxHeartbeats 8000000 in
theorem walk (w : World) (n0 : Int) (wn : (Lit.int .i64 n0).wf = true) (buy : Int) (wbuy : (Lit.int .i64 buy).wf = true) (get : Int) (wget : (Lit.int .i64 get).wf = true) (net0 : Int) (wnet : (Lit.int .i64 net0).wf = true) (rate0 : Int) (wrate : (Lit.int .i64 rate0).wf = true) :
    Calls Try.prog 3 #[.int .i64 n0, .int .i64 buy, .int .i64 get, .int .i64 net0, .int .i64 rate0] w fun e w' => e = .returned (.bool true) ∧ Below w.heap.size w w' := by
  have M40 := Lib.hid (Mn.mod_any n0 40 w (by decide) (by decide))
  have M4 := Lib.hid (Mn.mod_any buy 4 w (by decide) (by decide))
  have M3 := Lib.hid (Mn.mod_any get 3 w (by decide) (by decide))
  have MN := Lib.hid (Mn.mod64_any net0 3000 w (by decide) (by decide))
  have MR := Lib.hid (Mn.mod64_any rate0 10000 w (by decide) (by decide))
  clear wn wbuy wget wnet wrate
  go_enter Try.func3, Try.ntmps3
  go_wp2_with fail
  refine M40.out.mono ?_
  rintro e wq ⟨⟨r1, h10, h11, rfl⟩, hw⟩
  obtain rfl := hw
  obtain ⟨n, rfl⟩ : ∃ n : Nat, r1 = (n : Int) := ⟨r1.toNat, by omega⟩
  have hn : n < 40 := by omega
  go_wp2_with fail
  refine MN.out.mono ?_
  rintro e wq ⟨⟨r2, h20, h21, rfl⟩, hw⟩
  obtain rfl := hw
  obtain ⟨net, hnete⟩ : ∃ a, 1 + r2 = a := ⟨_, rfl⟩
  have wa1 : IntKind.i64.wrap (1 + r2) = net := by rw [hnete]; exact IntWalk.i64_in _ (by omega)
  go_wp2_with fail
  refine MR.out.mono ?_
  rintro e wq ⟨⟨r3, h30, h31, rfl⟩, hw⟩
  obtain rfl := hw
  obtain ⟨rate, hre⟩ : ∃ a, 1 + r3 = a := ⟨_, rfl⟩
  have wb1 : IntKind.i64.wrap (1 + r3) = rate := by rw [hre]; exact IntWalk.i64_in _ (by omega)
  go_wp2_with fail
  refine M4.out.mono ?_
  rintro e wq ⟨⟨r4, h40, h41, rfl⟩, hw⟩
  obtain rfl := hw
  obtain ⟨b, hbe⟩ : ∃ b : Nat, 1 + r4 = (b : Int) := ⟨(1 + r4).toNat, by omega⟩
  have wc1 : IntKind.i64.wrap (1 + r4) = (b : Int) := by rw [hbe]; exact IntWalk.i64_in _ (by omega)
  go_wp2_with fail
  refine M3.out.mono ?_
  rintro e wq ⟨⟨r5, h50, h51, rfl⟩, hw⟩
  obtain rfl := hw
  obtain ⟨g, hge⟩ : ∃ b : Nat, 1 + r5 = (b : Int) := ⟨(1 + r5).toNat, by omega⟩
  have wd1 : IntKind.i64.wrap (1 + r5) = (g : Int) := by rw [hge]; exact IntWalk.i64_in _ (by omega)
  have hnet : 1 ≤ net ∧ net ≤ 3000 := by omega
  have hrate : 1 ≤ rate ∧ rate ≤ 10000 := by omega
  have hb : 1 ≤ b ∧ b ≤ 4 := by omega
  have hg : 1 ≤ g ∧ g ≤ 3 := by omega
  have HN := Lib.hid (And.intro hn (And.intro hnet (And.intro hrate (And.intro hb hg))))
  obtain ⟨W1, hW1⟩ : ∃ W1, w.alloc (.cells #[.string ⟨#[97]⟩, .int .i64 3, .int .i64 0, .string ⟨#[]⟩, .string ⟨#[]⟩, .bool true, .slice none 0 0, .slice none 0 0, .int .i64 0, .int .i64 rate, .int .i64 0, .int .i64 (b : Int), .int .i64 (g : Int), .slice none 0 0, .slice none 0 0] 30) = W1 := ⟨_, rfl⟩
  have hb1 : Below w.heap.size w W1 := by rw [← hW1]; exact (Below.refl _ _).alloc (Nat.le_refl _) _
  have hx1 : Qu.Blk W1 w.heap.size 30 #[.string ⟨#[97]⟩, .int .i64 3, .int .i64 0, .string ⟨#[]⟩, .string ⟨#[]⟩, .bool true, .slice none 0 0, .slice none 0 0, .int .i64 0, .int .i64 rate, .int .i64 0, .int .i64 (b : Int), .int .i64 (g : Int), .slice none 0 0, .slice none 0 0] := by rw [← hW1]; exact Qu.Blk.new w _ _
  have HB1 := Lib.hid hb1
  have HX1 := Lib.hid hx1
  have hw1 := Lib.hid hW1
  clear hb1 hx1 hW1 hnete hre hbe hge h10 h11 h20 h21 h30 h31 h40 h41 h50 h51 M40 M4 M3 MN MR hnet hrate hb hg
  go_upto_region 3 with (fail)
  rw [hw1.out]
  clear hw1 wa1 wb1 wc1 wd1
  go_wp2_with fail
  go_loopw [12, 13, 14] (fun s12 s13 s14 wr => ∃ k : Nat, s14 = .int .i64 k ∧ k ≤ n ∧ Hid (Side W1 wr s12 s13 (sameU k net) (iotaL k))) (fun _ _ s14 _ => n - (intOf s14).toNat)
  case atStart => exact ⟨0, rfl, by omega, Lib.hid (Side.nil W1)⟩
  case round =>
    obtain ⟨k, rfl, hk, HO⟩ := hrel
    have kk : (0 : Int) ≤ (k : Int) := by omega
    obtain ⟨C, e5, hv5⟩ := HO.out.u.value
    obtain ⟨D, e6, hv6⟩ := HO.out.i.value
    rw [show (sameU k net).length = k from List.length_replicate ..] at hv5
    rw [iotaL_length] at hv6
    subst hv5 hv6
    by_cases hlt : k < n
    · have k1 : (k : Int) < (n : Int) := by omega
      have hou := HO.out.u
      rw [show (sameU k net).length = k from List.length_replicate ..] at hou
      have HW := Lib.hid hou
      have HOk : Hid (Ap.Unt.ok ⟨0, net, true⟩) := Lib.hid ⟨by dsimp only; omega, by have := HN.out.2.1; dsimp only; omega⟩
      have hlow := HO.out.below.size
      have HK : Hid (kInt.rep wr (fun _ => False) (k : Int) [.int .i64 (k : Int)] ∧ k < 40) := Lib.hid ⟨⟨rfl, by have := HN.out.1; omega⟩, by omega⟩
      clear hou
      go_wp2_with (first
        | (at_builtin
           refine Kd.wpList_push (o := ⟨some 46, _, _, _, _, _⟩) (W := wr) (F := fun _ => False) (B := W1.heap.size) (n := k) (v := .slice C k e5) (xs := sameU k net) (y := ⟨0, net, true⟩) (cs := [.int .i64 0, .int .i64 net, .bool true]) Ap.Unt.row_t rfl _ _ rfl rfl rfl rfl HW.out (Ap.Unt_rep.2 ⟨rfl, HOk.out⟩) (by omega) (by omega) hlow (fun _ h => h.elim) ?_
           intro g5 cap5 w3 hown hgrow hfr
           have H3 : Hid (Side W1 w3 (.slice (some ⟨g5, 0, none⟩) (k + 1) cap5) (.slice D k e6) (sameU (k + 1) net) (iotaL k)) := Lib.hid (by
             rw [show sameU (k + 1) net = sameU k net ++ [⟨0, net, true⟩] from List.replicate_succ' ..]
             exact HO.out.pushU (by rw [show (sameU k net).length = k from List.length_replicate ..]; exact hown) hgrow)
           have hoi := H3.out.i
           rw [iotaL_length] at hoi
           have HW3 := Lib.hid hoi
           have hlow3 := H3.out.below.size
           clear hown hgrow hfr hoi)
        | (at_builtin
           refine Kd.wpList_push (o := ⟨some 50, _, _, _, _, _⟩) (W := w3) (F := fun _ => False) (B := W1.heap.size) (n := k) (v := .slice D k e6) (xs := iotaL k) (y := (k : Int)) (cs := [.int .i64 (k : Int)]) Ap.int_t rfl _ _ rfl rfl rfl rfl HW3.out ⟨rfl, by have := HK.out.2; omega⟩ (by omega) (by omega) hlow3 (fun _ h => h.elim) ?_
           intro g6 cap6 w4 hown hgrow hfr
           have H4 : Hid (Side W1 w4 (.slice (some ⟨g5, 0, none⟩) (k + 1) cap5) (.slice (some ⟨g6, 0, none⟩) (k + 1) cap6) (sameU (k + 1) net) (iotaL (k + 1))) := Lib.hid (by
             rw [iotaL_next]
             exact H3.out.pushI (by rw [iotaL_length]; exact hown) hgrow)
           clear hown hgrow hfr))
      go_roundw
      case rel => exact ⟨k + 1, by go_num, by omega, H4⟩
      case measure => simp [intOf]; omega
    · have k1 : ¬ (k : Int) < (n : Int) := by omega
      obtain rfl : k = n := by omega
      clear hlt hk
      have HX := Lib.hid (HX1.out.below HO.out.below)
      have x11 := HX.out.cell 11
      have x12 := HX.out.cell 12
      obtain ⟨r, hre⟩ : ∃ r : Nat, b + g = r := ⟨_, rfl⟩
      have q1 : IntKind.i64.wrap ((b : Int) + (g : Int)) = (r : Int) := by rw [show (b : Int) + (g : Int) = (r : Int) by omega]; have := HN.out; exact IntWalk.i64_in _ (by omega)
      have HR := Lib.hid hre
      obtain ⟨T1, hT1⟩ : ∃ T, 2 * net = T := ⟨_, rfl⟩
      have bT1 : 2 ≤ T1 ∧ T1 ≤ 6000 := by have := HN.out; omega
      obtain ⟨T2, hT2⟩ : ∃ T, T1 * rate = T := ⟨_, rfl⟩
      have bT2 : 0 ≤ T2 ∧ T2 ≤ 60000000 := by
        have h1 := HN.out.2.2.1
        have h2 : T1 * rate ≤ 6000 * 10000 := Int.mul_le_mul bT1.2 h1.2 (by omega) (by decide)
        have h3 : 0 ≤ T1 * rate := Int.mul_nonneg (by omega) (by omega)
        rw [← hT2]
        exact ⟨h3, by omega⟩
      obtain ⟨T3, hT3⟩ : ∃ T, T2 + 10000 = T := ⟨_, rfl⟩
      obtain ⟨each, hea⟩ : ∃ T, Ct.halfN net rate = T := ⟨_, rfl⟩
      have heach : T3.tdiv 20000 = each := by
        rw [← hea, each_is HN.out.2.1 HN.out.2.2.1, hT1, hT2, hT3]
        exact Int.tdiv_eq_ediv_of_nonneg (by omega)
      have bE : 0 ≤ each ∧ each ≤ 3001 := by
        rw [← heach, Int.tdiv_eq_ediv_of_nonneg (by omega)]
        omega
      have q2 : IntKind.i64.wrap (2 * net) = T1 := by rw [hT1]; exact IntWalk.i64_in _ (by omega)
      have q3 : IntKind.i64.wrap (T1 * rate) = T2 := by rw [hT2]; exact IntWalk.i64_in _ (by omega)
      have q4 : IntKind.i64.wrap (T2 + 10000) = T3 := by rw [hT3]; exact IntWalk.i64_in _ (by omega)
      have q5 : IntKind.i64.wrap each = each := IntWalk.i64_in _ (by omega)
      have q2' : wrap64 (2 * net) = T1 := by rw [hT1]; exact IntWalk.wrap64_in _ (by omega)
      have q3' : wrap64 (T1 * rate) = T2 := by rw [hT2]; exact IntWalk.wrap64_in _ (by omega)
      have q5' : wrap64 each = each := IntWalk.wrap64_in _ (by omega)
      have HE := Lib.hid (And.intro hea bE)
      have hG := gw_holds (W := wr) (cl := true) (rate := rate) (buy := (b : Int)) (get := (g : Int)) (by have := HN.out; omega) (by have := HN.out; omega) (by have := HN.out; omega)
      have hou := HO.out.u
      rw [show (sameU k net).length = k from List.length_replicate ..] at hou
      have hoi := HO.out.i
      rw [iotaL_length] at hoi
      have H5 := lbuyget_any (gwP true rate b g) (noLay ⟨none, 0, 0⟩) C k e5 (sameU k net) D k e6 (iotaL k) wr hG (Ct.small_of hG (show (0 : Nat) ≤ 40 by decide) (show (0 : Nat) ≤ 40 by decide) (show (0 : Nat) ≤ 20 by decide) (show (0 : Nat) ≤ 20 by decide)) hou.read hou.fit hoi.read (by omega) (by omega)
      have hF := free_is (n := k) (b := b) (g := g) HN.out.1 HN.out.2.2.2.1 HN.out.2.2.2.2 HN.out.2.1 HN.out.2.2.1 hea
      obtain ⟨ys, z, hyz⟩ : ∃ ys z, buygetU (gwP true rate b g) (sameU k net) (iotaL k) = (ys, z) := ⟨_, _, rfl⟩
      rw [hyz] at hF H5
      have H5b : Calls Try.prog 8 #[.agg #[.string ⟨#[97]⟩, .int .i64 3, .int .i64 0, .string ⟨#[]⟩, .string ⟨#[]⟩, .bool true, .slice none 0 0, .slice none 0 0, .int .i64 0, .int .i64 rate, .int .i64 0, .int .i64 (b : Int), .int .i64 (g : Int), .slice none 0 0, .slice none 0 0], .slice C k e5, .slice D k e6] wr fun e w' => ∃ (A : Option Addr) (c2 : Nat), e = .returned (.tuple #[.slice A k c2, .int .i64 z]) ∧ Kd.Own kUnt w' wr.heap.size 34 (fun _ => False) (.slice A k c2) k ys ∧ Below wr.heap.size wr w' := by
        have h6 := hF.len
        unfold Ko.Told2 at H5
        rw [show (ys, z).1 = ys from rfl] at h6 H5
        rw [h6] at H5
        exact H5
      have H5h := Lib.hid H5b
      have HF := Lib.hid hF
      have HBw := Lib.hid (HB1.out.trans (HO.out.below.mono HB1.out.size))
      clear hou hoi hG H5 H5b hF hyz hT1 hT2 hT3 hea hre HO HX1 HB1
      have hx0 := HX.out.cell 0
      have hx1 := HX.out.cell 1
      have hx2 := HX.out.cell 2
      have hx3 := HX.out.cell 3
      have hx4 := HX.out.cell 4
      have hx5 := HX.out.cell 5
      have hx6 := HX.out.cell 6
      have hx7 := HX.out.cell 7
      have hx8 := HX.out.cell 8
      have hx9 := HX.out.cell 9
      have hx10 := HX.out.cell 10
      have hx13 := HX.out.cell 13
      have hx14 := HX.out.cell 14
      have bE2 := bE
      go_wp2_with fail
      refine H5h.out.mono ?_
      rintro e w5 ⟨A17, c17, rfl, ho5, hb5⟩
      clear x11 x12 hx0 hx1 hx2 hx3 hx4 hx5 hx6 hx7 hx8 hx9 hx10 hx13 hx14 q1 q2 q3 q4 q5 q2' q3' q5' H5h
      have HBx := Lib.hid (HX.out.below hb5)
      have HY5 := Lib.hid ho5.read
      have HBf := Lib.hid (HBw.out.trans (hb5.mono HBw.out.size))
      have d12 : ∀ u, Below w5.heap.size w5 u → u.cell? ⟨w.heap.size, 12, none⟩ = some (.int .i64 (g : Int)) := fun u hu => (HBx.out.below hu).cell 12
      have HAw := Lib.hid (fun W => awake_any W)
      have hoff := HF.out.off
      have hrr := HR.out
      have hNN := HN.out
      obtain ⟨Q, G, m, hnum⟩ := free_nums (k := k) (r := r) (g := g) (each := each) (z := z) hNN.1 hNN.2.2.2.2.2 bE (by rw [← hrr]; exact hoff)
      have HNm := Lib.hid hnum
      have r1 : ¬ (r : Int) = 0 := by omega
      have r3 : ¬ r = 0 := by omega
      have r2 : ((r : Int) == 0) = false := by rw [beq_eq_false_iff_ne]; omega
      have hm2 : k / (b + g) * (b + g) = m := by rw [hrr]; exact hnum.at_
      have HM2 := Lib.hid hm2
      have HRr := Lib.hid (And.intro hrr (show 1 ≤ r ∧ r ≤ 7 by omega))
      have hzz : (z == z) = true := by rw [beq_self_eq_true]
      clear hoff hrr hNN hnum hm2 ho5 hb5 HX HR bE2
      clear HBw HE
      have p1 := HNm.out.p1
      have p2 := HNm.out.p2
      have p2' := HNm.out.p2'
      have p3 := HNm.out.p3
      have p3' := HNm.out.p3'
      have p4 := HNm.out.p4
      have p4' := HNm.out.p4'
      go_wp2_with fail
      refine wp_region_held_drew (S := fun u => Below w5.heap.size w5 u) (by kernel_rfl) ((Below.refl _ _).drew) (fun hS0 => ?_)
      refine wpAnyH_ready (rs := [0]) (by kernel_rfl) (by simp) ?_
      refine AllReadyH.cons (o := ⟨some 69, _, _, _, _, _⟩) rfl (fun K hK => ?_) AllReadyH.nil
      go_simp
      refine (HAw.out _).mono ?_
      rintro e w6 ⟨rfl, hb6⟩
      have hy6 : Below w5.heap.size w5 w6 := Below.trans hS0 (hb6.mono (Below.size hS0))
      go_wp2_with fail
      refine hK.out _ _ (hy6) (fun hS1 => ?_)
      clear hK K
      try simp only [Act.put, pkA, pkB, pkC]
      refine pkT 1 70 hS1 ?_
      try simp only [Act.put, pkA, pkB, pkC]
      refine pkT 2 71 hS1 ?_
      try simp only [Act.put, pkA, pkB, pkC]
      refine pkT 3 72 hS1 ?_
      try simp only [Act.put, pkA, pkB, pkC]
      refine pkT 4 73 hS1 ?_
      try simp only [Act.put, pkA, pkB, pkC]
      refine pkT 5 74 hS1 ?_
      try simp only [Act.put, pkA, pkB, pkC]
      refine pkT 6 75 hS1 ?_
      try simp only [Act.put, pkA, pkB, pkC]
      refine pkT 7 76 hS1 ?_
      try simp only [Act.put, pkA, pkB, pkC]
      refine pkT 8 77 hS1 ?_
      try simp only [Act.put, pkA, pkB, pkC]
      refine pkT 9 78 hS1 ?_
      try simp only [Act.put, pkA, pkB, pkC]
      refine pkT 10 79 hS1 ?_
      try simp only [Act.put, pkA, pkB, pkC]
      refine pkT 11 80 hS1 ?_
      try simp only [Act.put, pkA, pkB, pkC]
      refine pkT 12 81 hS1 ?_
      try simp only [Act.put, pkA, pkB, pkC]
      refine pkT 13 82 hS1 ?_
      try simp only [Act.put, pkA, pkB, pkC]
      refine pkT 14 83 hS1 ?_
      try simp only [Act.put, pkA, pkB, pkC]
      refine pkT 15 84 hS1 ?_
      try simp only [Act.put, pkA, pkB, pkC]
      refine pkT 16 85 hS1 ?_
      try simp only [Act.put, pkA, pkB, pkC]
      refine pkT 17 86 hS1 ?_
      try simp only [Act.put, pkA, pkB, pkC]
      refine pkT 18 87 hS1 ?_
      try simp only [Act.put, pkA, pkB, pkC]
      refine pkT 19 88 hS1 ?_
      try simp only [Act.put, pkA, pkB, pkC]
      refine wpAnyH_done (by kernel_rfl) ?_ _
      skip
      have HY6 := Lib.hid hy6
      clear hS0 hb6 hy6 d12 p1 p2 p2' p3 p3' p4 p4'
      have HYs : Hid (Below w5.heap.size w5 w6) := HY6
      go_wp2_with fail
      go_loopw [19] (fun s19 wr => ∃ i : Nat, s19 = .int .i64 i ∧ i ≤ k ∧ Hid (Below w6.heap.size w6 wr)) (fun s19 _ => k - (intOf s19).toNat)
      case atStart => exact ⟨0, rfl, by omega, Lib.hid (Below.refl _ _)⟩
      case round =>
        obtain ⟨i, rfl, hi, HO⟩ := hrel
        have ii : (0 : Int) ≤ (i : Int) := by omega
        have hi40 : i ≤ 40 := by have := HN.out.1; omega
        by_cases hlt : i < k
        · have k1 : (i : Int) < (k : Int) := by omega
          obtain ⟨y, hy⟩ : ∃ y, net - each = y := ⟨_, rfl⟩
          have y1 : IntKind.i64.wrap (net - each) = y := by rw [hy]; have := HN.out.2.1; exact IntWalk.i64_in _ (by omega)
          obtain ⟨t, ht, t1, t2, t2'⟩ := rem_free (r := r) hi40
          have HT0 : Hid (i % (b + g) = t ∧ net - each = y) := Lib.hid ⟨by rw [HRr.out.1]; exact ht, hy⟩
          have HT1 := Lib.hid (And.intro t1 (And.intro t2 t2'))
          clear hy ht t1 t2 t2'
          by_cases hc : i < m
          · have c1 : (i : Int) < (m : Int) := by omega
            by_cases he : 0 < each
            · have HC : Hid (i < k / (b + g) * (b + g) ∧ 0 < each) := Lib.hid ⟨by rw [HM2.out]; exact hc, he⟩
              by_cases hbt : b ≤ t
              · have c3 : (b : Int) ≤ (t : Int) := by omega
                have HD : Hid (b ≤ i % (b + g)) := Lib.hid (by rw [HT0.out.1]; exact hbt)
                have HI : Hid (i + 1 ≤ k ∧ 0 ≤ (i : Int)) := Lib.hid ⟨hlt, ii⟩
                have HV : Hid (ys[i]? = some (⟨0, y, false⟩ : Unt)) := Lib.hid (by rw [HF.out.at_ i hlt]; rw [if_pos HC.out, if_pos HD.out, HT0.out.2])
                have HU := Lib.hid (HYs.out.trans (HO.out.mono HYs.out.size))
                obtain ⟨g8, o8, rfl, hg8, _, _, a0, a1, a2⟩ := row_Unt HY5.out HV.out
                have HA := Lib.hid (And.intro hg8 (And.intro a0 (And.intro a1 a2)))
                clear hg8 a0 a1 a2
                obtain ⟨W7, hW7⟩ : ∃ W7, wr.alloc (.cells #[.int .i64 0, .int .i64 net, .bool true] 34) = W7 := ⟨_, rfl⟩
                have HZ7 : Hid (Qu.Blk W7 wr.heap.size 34 #[.int .i64 0, .int .i64 net, .bool true]) := Lib.hid (by rw [← hW7]; exact Qu.Blk.new wr _ _)
                have HB7 : Hid (Below wr.heap.size wr W7) := Lib.hid (by rw [← hW7]; exact (Below.refl _ _).alloc (Nat.le_refl _) _)
                have hw7 := Lib.hid hW7
                clear hW7
                obtain ⟨W8, hW8⟩ : ∃ W8, W7.setCell ⟨wr.heap.size, 2, none⟩ (.bool false) = W8 := ⟨_, rfl⟩
                have HZ8 : Hid (Qu.Blk W8 wr.heap.size 34 #[.int .i64 0, .int .i64 net, .bool false]) := Lib.hid (by rw [← hW8]; exact HZ7.out.put 2 _)
                have HB8 : Hid (Below wr.heap.size wr W8) := Lib.hid (by rw [← hW8]; exact HB7.out.setCell (Nat.le_refl _) _)
                have hw8 := Lib.hid hW8
                clear hW8
                obtain ⟨W9, hW9⟩ : ∃ W9, W8.setCell ⟨wr.heap.size, 1, none⟩ (.int .i64 y) = W9 := ⟨_, rfl⟩
                have HZ9 : Hid (Qu.Blk W9 wr.heap.size 34 #[.int .i64 0, .int .i64 y, .bool false]) := Lib.hid (by rw [← hW9]; exact HZ8.out.put 1 _)
                have HB9 : Hid (Below wr.heap.size wr W9) := Lib.hid (by rw [← hW9]; exact HB8.out.setCell (Nat.le_refl _) _)
                have hw9 := Lib.hid hW9
                clear hW9
                go_upto_region 18 with (fail)
                rw [hw7.out]
                clear hw7
                have p1 := HNm.out.p1
                have p4 := HNm.out.p4
                have p4' := HNm.out.p4'
                have p5 := HNm.out.p5
                have p5' := HNm.out.p5'
                have t1 := HT1.out.1
                have t2 := HT1.out.2.1
                have t2' := HT1.out.2.2
                have z2 := HZ7.out.cell 2
                have zf := HZ7.out.frozen 2
                go_upto_region 20 with (fail)
                rw [hw8.out]
                clear hw8 z2 zf
                have hb08 := HU.out.trans (HB8.out.mono HU.out.size)
                have d11 : ∀ u, Below W8.heap.size W8 u → u.cell? ⟨w.heap.size, 11, none⟩ = some (.int .i64 (b : Int)) := fun u hu => ((hb08.trans (hu.mono hb08.size)).cell (p := ⟨w.heap.size, _, none⟩) HBx.out.lt).trans (HBx.out.cell 11)
                have HT := Lib.hid hb08
                clear hb08
                refine wp_region_held_drew (S := fun u => Below W8.heap.size W8 u) (by kernel_rfl) ((Below.refl _ _).drew) (fun hS0 => ?_)
                refine pkT 0 108 hS0 ?_
                try simp only [Act.put, pkA, pkB, pkC]
                refine pkT 1 109 hS0 ?_
                try simp only [Act.put, pkA, pkB, pkC]
                refine pkT 2 110 hS0 ?_
                try simp only [Act.put, pkA, pkB, pkC]
                refine pkT 3 111 hS0 ?_
                try simp only [Act.put, pkA, pkB, pkC]
                refine pkT 4 112 hS0 ?_
                try simp only [Act.put, pkA, pkB, pkC]
                refine pkT 5 113 hS0 ?_
                try simp only [Act.put, pkA, pkB, pkC]
                refine wpAnyH_done (by kernel_rfl) ?_ _
                skip
                clear d11 hS0
                have z1 := HZ8.out.drew.cell 1
                have zf := HZ8.out.drew.frozen 1
                go_upto_region 22 with (fail)
                rw [hw9.out]
                clear hw9 z1 zf
                have hU8 := HU.out.trans (HB9.out.mono HU.out.size)
                have c0 : ∀ u, Below W9.heap.size W9 u → u.cell? ⟨g8, o8 + i * 3, none⟩ = some (.int .i64 0) := fun u hu => ((hU8.trans (hu.mono hU8.size)).cell (p := ⟨g8, _, none⟩) HA.out.1).trans HA.out.2.1
                have c1 : ∀ u, Below W9.heap.size W9 u → u.cell? ⟨g8, o8 + i * 3 + 1, none⟩ = some (.int .i64 y) := fun u hu => ((hU8.trans (hu.mono hU8.size)).cell (p := ⟨g8, _, none⟩) HA.out.1).trans HA.out.2.2.1
                have c2 : ∀ u, Below W9.heap.size W9 u → u.cell? ⟨g8, o8 + i * 3 + 2, none⟩ = some (.bool false) := fun u hu => ((hU8.trans (hu.mono hU8.size)).cell (p := ⟨g8, _, none⟩) HA.out.1).trans HA.out.2.2.2
                have b0 : ∀ u, Below W9.heap.size W9 u → u.cell? ⟨wr.heap.size, 0, none⟩ = some (.int .i64 0) := fun u hu => (HZ9.out.below hu).cell 0
                have b1 : ∀ u, Below W9.heap.size W9 u → u.cell? ⟨wr.heap.size, 1, none⟩ = some (.int .i64 y) := fun u hu => (HZ9.out.below hu).cell 1
                have b2 : ∀ u, Below W9.heap.size W9 u → u.cell? ⟨wr.heap.size, 2, none⟩ = some (.bool false) := fun u hu => (HZ9.out.below hu).cell 2
                have HE : Hid (Below w6.heap.size w6 W9.drew.drew) := Lib.hid ((HO.out.trans (HB9.out.mono HO.out.size)).drew.drew)
                clear hU8
                refine wp_region_held_drew (S := fun u => Below W9.heap.size W9 u) (by kernel_rfl) ((Below.refl _ _).drew.drew) (fun hS0 => ?_)
                refine pkT 0 118 hS0 ?_
                try simp only [Act.put, pkA, pkB, pkC]
                refine pkT 1 119 hS0 ?_
                try simp only [Act.put, pkA, pkB, pkC]
                refine pkT 2 120 hS0 ?_
                try simp only [Act.put, pkA, pkB, pkC]
                refine pkT 3 121 hS0 ?_
                try simp only [Act.put, pkA, pkB, pkC]
                refine pkT 4 122 hS0 ?_
                try simp only [Act.put, pkA, pkB, pkC]
                refine pkT 5 123 hS0 ?_
                try simp only [Act.put, pkA, pkB, pkC]
                refine wpAnyH_done (by kernel_rfl) ?_ _
                skip
                clear c0 c1 c2 b0 b1 b2 hS0 p1 p4 p4' p5 p5' t1 t2 t2'
                go_wp2_with fail
                go_roundw
                case rel => exact ⟨i + 1, by go_num, HI.out.1, HE⟩
                case measure => simp [intOf]; omega
              · have c3 : ¬ (b : Int) ≤ (t : Int) := by omega
                have HD : Hid (¬ b ≤ i % (b + g)) := Lib.hid (by rw [HT0.out.1]; exact hbt)
                have HI : Hid (i + 1 ≤ k ∧ 0 ≤ (i : Int)) := Lib.hid ⟨hlt, ii⟩
                have HV : Hid (ys[i]? = some (⟨0, net, false⟩ : Unt)) := Lib.hid (by rw [HF.out.at_ i hlt]; rw [if_pos HC.out, if_neg HD.out])
                have HU := Lib.hid (HYs.out.trans (HO.out.mono HYs.out.size))
                obtain ⟨g8, o8, rfl, hg8, _, _, a0, a1, a2⟩ := row_Unt HY5.out HV.out
                have HA := Lib.hid (And.intro hg8 (And.intro a0 (And.intro a1 a2)))
                clear hg8 a0 a1 a2
                obtain ⟨W7, hW7⟩ : ∃ W7, wr.alloc (.cells #[.int .i64 0, .int .i64 net, .bool true] 34) = W7 := ⟨_, rfl⟩
                have HZ7 : Hid (Qu.Blk W7 wr.heap.size 34 #[.int .i64 0, .int .i64 net, .bool true]) := Lib.hid (by rw [← hW7]; exact Qu.Blk.new wr _ _)
                have HB7 : Hid (Below wr.heap.size wr W7) := Lib.hid (by rw [← hW7]; exact (Below.refl _ _).alloc (Nat.le_refl _) _)
                have hw7 := Lib.hid hW7
                clear hW7
                obtain ⟨W8, hW8⟩ : ∃ W8, W7.setCell ⟨wr.heap.size, 2, none⟩ (.bool false) = W8 := ⟨_, rfl⟩
                have HZ8 : Hid (Qu.Blk W8 wr.heap.size 34 #[.int .i64 0, .int .i64 net, .bool false]) := Lib.hid (by rw [← hW8]; exact HZ7.out.put 2 _)
                have HB8 : Hid (Below wr.heap.size wr W8) := Lib.hid (by rw [← hW8]; exact HB7.out.setCell (Nat.le_refl _) _)
                have hw8 := Lib.hid hW8
                clear hW8
                go_upto_region 18 with (fail)
                rw [hw7.out]
                clear hw7
                have p1 := HNm.out.p1
                have p4 := HNm.out.p4
                have p4' := HNm.out.p4'
                have p5 := HNm.out.p5
                have p5' := HNm.out.p5'
                have t1 := HT1.out.1
                have t2 := HT1.out.2.1
                have t2' := HT1.out.2.2
                have z2 := HZ7.out.cell 2
                have zf := HZ7.out.frozen 2
                go_upto_region 20 with (fail)
                rw [hw8.out]
                clear hw8 z2 zf
                have hb08 := HU.out.trans (HB8.out.mono HU.out.size)
                have d11 : ∀ u, Below W8.heap.size W8 u → u.cell? ⟨w.heap.size, 11, none⟩ = some (.int .i64 (b : Int)) := fun u hu => ((hb08.trans (hu.mono hb08.size)).cell (p := ⟨w.heap.size, _, none⟩) HBx.out.lt).trans (HBx.out.cell 11)
                have HT := Lib.hid hb08
                clear hb08
                refine wp_region_held_drew (S := fun u => Below W8.heap.size W8 u) (by kernel_rfl) ((Below.refl _ _).drew) (fun hS0 => ?_)
                refine pkT 0 108 hS0 ?_
                try simp only [Act.put, pkA, pkB, pkC]
                refine pkT 1 109 hS0 ?_
                try simp only [Act.put, pkA, pkB, pkC]
                refine pkT 2 110 hS0 ?_
                try simp only [Act.put, pkA, pkB, pkC]
                refine pkT 3 111 hS0 ?_
                try simp only [Act.put, pkA, pkB, pkC]
                refine pkT 4 112 hS0 ?_
                try simp only [Act.put, pkA, pkB, pkC]
                refine pkT 5 113 hS0 ?_
                try simp only [Act.put, pkA, pkB, pkC]
                refine wpAnyH_done (by kernel_rfl) ?_ _
                skip
                clear d11 hS0
                go_upto_region 22 with (fail)
                have hU8 := HU.out.trans (HB8.out.mono HU.out.size)
                have c0 : ∀ u, Below W8.heap.size W8 u → u.cell? ⟨g8, o8 + i * 3, none⟩ = some (.int .i64 0) := fun u hu => ((hU8.trans (hu.mono hU8.size)).cell (p := ⟨g8, _, none⟩) HA.out.1).trans HA.out.2.1
                have c1 : ∀ u, Below W8.heap.size W8 u → u.cell? ⟨g8, o8 + i * 3 + 1, none⟩ = some (.int .i64 net) := fun u hu => ((hU8.trans (hu.mono hU8.size)).cell (p := ⟨g8, _, none⟩) HA.out.1).trans HA.out.2.2.1
                have c2 : ∀ u, Below W8.heap.size W8 u → u.cell? ⟨g8, o8 + i * 3 + 2, none⟩ = some (.bool false) := fun u hu => ((hU8.trans (hu.mono hU8.size)).cell (p := ⟨g8, _, none⟩) HA.out.1).trans HA.out.2.2.2
                have b0 : ∀ u, Below W8.heap.size W8 u → u.cell? ⟨wr.heap.size, 0, none⟩ = some (.int .i64 0) := fun u hu => (HZ8.out.below hu).cell 0
                have b1 : ∀ u, Below W8.heap.size W8 u → u.cell? ⟨wr.heap.size, 1, none⟩ = some (.int .i64 net) := fun u hu => (HZ8.out.below hu).cell 1
                have b2 : ∀ u, Below W8.heap.size W8 u → u.cell? ⟨wr.heap.size, 2, none⟩ = some (.bool false) := fun u hu => (HZ8.out.below hu).cell 2
                have HE : Hid (Below w6.heap.size w6 W8.drew.drew) := Lib.hid ((HO.out.trans (HB8.out.mono HO.out.size)).drew.drew)
                clear hU8
                refine wp_region_held_drew (S := fun u => Below W8.heap.size W8 u) (by kernel_rfl) ((Below.refl _ _).drew.drew) (fun hS0 => ?_)
                refine pkT 0 118 hS0 ?_
                try simp only [Act.put, pkA, pkB, pkC]
                refine pkT 1 119 hS0 ?_
                try simp only [Act.put, pkA, pkB, pkC]
                refine pkT 2 120 hS0 ?_
                try simp only [Act.put, pkA, pkB, pkC]
                refine pkT 3 121 hS0 ?_
                try simp only [Act.put, pkA, pkB, pkC]
                refine pkT 4 122 hS0 ?_
                try simp only [Act.put, pkA, pkB, pkC]
                refine pkT 5 123 hS0 ?_
                try simp only [Act.put, pkA, pkB, pkC]
                refine wpAnyH_done (by kernel_rfl) ?_ _
                skip
                clear c0 c1 c2 b0 b1 b2 hS0 p1 p4 p4' p5 p5' t1 t2 t2'
                go_wp2_with fail
                go_roundw
                case rel => exact ⟨i + 1, by go_num, HI.out.1, HE⟩
                case measure => simp [intOf]; omega
            · have HC : Hid (¬ (i < k / (b + g) * (b + g) ∧ 0 < each)) := Lib.hid fun h => he h.2
              have HI : Hid (i + 1 ≤ k ∧ 0 ≤ (i : Int)) := Lib.hid ⟨hlt, ii⟩
              have HV : Hid (ys[i]? = some (⟨0, net, true⟩ : Unt)) := Lib.hid (by rw [HF.out.at_ i hlt]; rw [if_neg HC.out])
              have HU := Lib.hid (HYs.out.trans (HO.out.mono HYs.out.size))
              obtain ⟨g8, o8, rfl, hg8, _, _, a0, a1, a2⟩ := row_Unt HY5.out HV.out
              have HA := Lib.hid (And.intro hg8 (And.intro a0 (And.intro a1 a2)))
              clear hg8 a0 a1 a2
              obtain ⟨W7, hW7⟩ : ∃ W7, wr.alloc (.cells #[.int .i64 0, .int .i64 net, .bool true] 34) = W7 := ⟨_, rfl⟩
              have HZ7 : Hid (Qu.Blk W7 wr.heap.size 34 #[.int .i64 0, .int .i64 net, .bool true]) := Lib.hid (by rw [← hW7]; exact Qu.Blk.new wr _ _)
              have HB7 : Hid (Below wr.heap.size wr W7) := Lib.hid (by rw [← hW7]; exact (Below.refl _ _).alloc (Nat.le_refl _) _)
              have hw7 := Lib.hid hW7
              clear hW7
              go_upto_region 18 with (fail)
              rw [hw7.out]
              clear hw7
              have p1 := HNm.out.p1
              have p4 := HNm.out.p4
              have p4' := HNm.out.p4'
              have p5 := HNm.out.p5
              have p5' := HNm.out.p5'
              have t1 := HT1.out.1
              have t2 := HT1.out.2.1
              have t2' := HT1.out.2.2
              go_upto_region 22 with (fail)
              have hU8 := HU.out.trans (HB7.out.mono HU.out.size)
              have c0 : ∀ u, Below W7.heap.size W7 u → u.cell? ⟨g8, o8 + i * 3, none⟩ = some (.int .i64 0) := fun u hu => ((hU8.trans (hu.mono hU8.size)).cell (p := ⟨g8, _, none⟩) HA.out.1).trans HA.out.2.1
              have c1 : ∀ u, Below W7.heap.size W7 u → u.cell? ⟨g8, o8 + i * 3 + 1, none⟩ = some (.int .i64 net) := fun u hu => ((hU8.trans (hu.mono hU8.size)).cell (p := ⟨g8, _, none⟩) HA.out.1).trans HA.out.2.2.1
              have c2 : ∀ u, Below W7.heap.size W7 u → u.cell? ⟨g8, o8 + i * 3 + 2, none⟩ = some (.bool true) := fun u hu => ((hU8.trans (hu.mono hU8.size)).cell (p := ⟨g8, _, none⟩) HA.out.1).trans HA.out.2.2.2
              have b0 : ∀ u, Below W7.heap.size W7 u → u.cell? ⟨wr.heap.size, 0, none⟩ = some (.int .i64 0) := fun u hu => (HZ7.out.below hu).cell 0
              have b1 : ∀ u, Below W7.heap.size W7 u → u.cell? ⟨wr.heap.size, 1, none⟩ = some (.int .i64 net) := fun u hu => (HZ7.out.below hu).cell 1
              have b2 : ∀ u, Below W7.heap.size W7 u → u.cell? ⟨wr.heap.size, 2, none⟩ = some (.bool true) := fun u hu => (HZ7.out.below hu).cell 2
              have HE : Hid (Below w6.heap.size w6 W7.drew) := Lib.hid ((HO.out.trans (HB7.out.mono HO.out.size)).drew)
              clear hU8
              refine wp_region_held_drew (S := fun u => Below W7.heap.size W7 u) (by kernel_rfl) ((Below.refl _ _).drew) (fun hS0 => ?_)
              refine pkT 0 118 hS0 ?_
              try simp only [Act.put, pkA, pkB, pkC]
              refine pkT 1 119 hS0 ?_
              try simp only [Act.put, pkA, pkB, pkC]
              refine pkT 2 120 hS0 ?_
              try simp only [Act.put, pkA, pkB, pkC]
              refine pkT 3 121 hS0 ?_
              try simp only [Act.put, pkA, pkB, pkC]
              refine pkT 4 122 hS0 ?_
              try simp only [Act.put, pkA, pkB, pkC]
              refine pkT 5 123 hS0 ?_
              try simp only [Act.put, pkA, pkB, pkC]
              refine wpAnyH_done (by kernel_rfl) ?_ _
              skip
              clear c0 c1 c2 b0 b1 b2 hS0 p1 p4 p4' p5 p5' t1 t2 t2'
              go_wp2_with fail
              go_roundw
              case rel => exact ⟨i + 1, by go_num, HI.out.1, HE⟩
              case measure => simp [intOf]; omega
          · have c1 : ¬ (i : Int) < (m : Int) := by omega
            have HC : Hid (¬ (i < k / (b + g) * (b + g) ∧ 0 < each)) := Lib.hid fun h => hc (by rw [← HM2.out]; exact h.1)
            have HI : Hid (i + 1 ≤ k ∧ 0 ≤ (i : Int)) := Lib.hid ⟨hlt, ii⟩
            have HV : Hid (ys[i]? = some (⟨0, net, true⟩ : Unt)) := Lib.hid (by rw [HF.out.at_ i hlt]; rw [if_neg HC.out])
            have HU := Lib.hid (HYs.out.trans (HO.out.mono HYs.out.size))
            obtain ⟨g8, o8, rfl, hg8, _, _, a0, a1, a2⟩ := row_Unt HY5.out HV.out
            have HA := Lib.hid (And.intro hg8 (And.intro a0 (And.intro a1 a2)))
            clear hg8 a0 a1 a2
            obtain ⟨W7, hW7⟩ : ∃ W7, wr.alloc (.cells #[.int .i64 0, .int .i64 net, .bool true] 34) = W7 := ⟨_, rfl⟩
            have HZ7 : Hid (Qu.Blk W7 wr.heap.size 34 #[.int .i64 0, .int .i64 net, .bool true]) := Lib.hid (by rw [← hW7]; exact Qu.Blk.new wr _ _)
            have HB7 : Hid (Below wr.heap.size wr W7) := Lib.hid (by rw [← hW7]; exact (Below.refl _ _).alloc (Nat.le_refl _) _)
            have hw7 := Lib.hid hW7
            clear hW7
            go_upto_region 18 with (fail)
            rw [hw7.out]
            clear hw7
            have p1 := HNm.out.p1
            have p4 := HNm.out.p4
            have p4' := HNm.out.p4'
            have p5 := HNm.out.p5
            have p5' := HNm.out.p5'
            have t1 := HT1.out.1
            have t2 := HT1.out.2.1
            have t2' := HT1.out.2.2
            go_upto_region 22 with (fail)
            have hU8 := HU.out.trans (HB7.out.mono HU.out.size)
            have c0 : ∀ u, Below W7.heap.size W7 u → u.cell? ⟨g8, o8 + i * 3, none⟩ = some (.int .i64 0) := fun u hu => ((hU8.trans (hu.mono hU8.size)).cell (p := ⟨g8, _, none⟩) HA.out.1).trans HA.out.2.1
            have c1 : ∀ u, Below W7.heap.size W7 u → u.cell? ⟨g8, o8 + i * 3 + 1, none⟩ = some (.int .i64 net) := fun u hu => ((hU8.trans (hu.mono hU8.size)).cell (p := ⟨g8, _, none⟩) HA.out.1).trans HA.out.2.2.1
            have c2 : ∀ u, Below W7.heap.size W7 u → u.cell? ⟨g8, o8 + i * 3 + 2, none⟩ = some (.bool true) := fun u hu => ((hU8.trans (hu.mono hU8.size)).cell (p := ⟨g8, _, none⟩) HA.out.1).trans HA.out.2.2.2
            have b0 : ∀ u, Below W7.heap.size W7 u → u.cell? ⟨wr.heap.size, 0, none⟩ = some (.int .i64 0) := fun u hu => (HZ7.out.below hu).cell 0
            have b1 : ∀ u, Below W7.heap.size W7 u → u.cell? ⟨wr.heap.size, 1, none⟩ = some (.int .i64 net) := fun u hu => (HZ7.out.below hu).cell 1
            have b2 : ∀ u, Below W7.heap.size W7 u → u.cell? ⟨wr.heap.size, 2, none⟩ = some (.bool true) := fun u hu => (HZ7.out.below hu).cell 2
            have HE : Hid (Below w6.heap.size w6 W7.drew) := Lib.hid ((HO.out.trans (HB7.out.mono HO.out.size)).drew)
            clear hU8
            refine wp_region_held_drew (S := fun u => Below W7.heap.size W7 u) (by kernel_rfl) ((Below.refl _ _).drew) (fun hS0 => ?_)
            refine pkT 0 118 hS0 ?_
            try simp only [Act.put, pkA, pkB, pkC]
            refine pkT 1 119 hS0 ?_
            try simp only [Act.put, pkA, pkB, pkC]
            refine pkT 2 120 hS0 ?_
            try simp only [Act.put, pkA, pkB, pkC]
            refine pkT 3 121 hS0 ?_
            try simp only [Act.put, pkA, pkB, pkC]
            refine pkT 4 122 hS0 ?_
            try simp only [Act.put, pkA, pkB, pkC]
            refine pkT 5 123 hS0 ?_
            try simp only [Act.put, pkA, pkB, pkC]
            refine wpAnyH_done (by kernel_rfl) ?_ _
            skip
            clear c0 c1 c2 b0 b1 b2 hS0 p1 p4 p4' p5 p5' t1 t2 t2'
            go_wp2_with fail
            go_roundw
            case rel => exact ⟨i + 1, by go_num, HI.out.1, HE⟩
            case measure => simp [intOf]; omega
        · have k1 : ¬ (i : Int) < (k : Int) := by omega
          have HE : Hid (Below w.heap.size w wr) := Lib.hid (HBf.out.trans ((HYs.out.trans (HO.out.mono HYs.out.size)).mono HBf.out.size))
          go_wp2
          go_ret
          exact ⟨rfl, HE.out⟩
set_option maxRecDepth 100000 in
theorem lifted (os : Os) (started : os.Started) (H : Type) (enc : TypeId × Value → H) :
    ReturnsInHanded {} Try.checked os 3 .any (Rows.dealFreeSpec.pre6 enc Try.prog Try.f3 Rows.dealFreeRow.domain false) (Rows.dealFreeSpec.post enc Try.prog Try.f3 false true false false) := by
  refine returnsInHanded_of_change (C := Try.checked) own started (by kernel_rfl) Try.func3
    (ChangeSpec.witness6 (enc := enc) (C := Try.checked) false ⟨#[], #[.int .i64 0, .int .i64 0, .int .i64 0, .int .i64 0, .int .i64 0], []⟩ 8 (by kernel_rfl) (by kernel_rfl) (by kernel_rfl) (by kernel_rfl)) ?_
  intro W base args ds gs before hval0 hW hcnd _
  have hval : ∀ (j : Nat) t v, Try.f3.params[j]? = some t → args[j]? = some v → Value.okWide Try.prog W .any base t v := hval0
  have hW' := hW
  obtain ⟨p, q, hA0, hV, rfl, hfz, hnd⟩ := hW
  have hA : DataW.TrodAll enc Try.prog W 0 (fun _ => true) true Try.f3.params.toList args.toList ds p := hA0
  rw [Try.params3] at hA hval
  obtain ⟨v0, vs0, d0, ds0, p0, q0, hargs, rfl, rfl, h0, r0⟩ := trodAll_cons hA
  obtain ⟨v1, vs1, d1, ds1, p1, q1, rfl, rfl, rfl, h1, r1⟩ := trodAll_cons r0
  obtain ⟨v2, vs2, d2, ds2, p2, q2, rfl, rfl, rfl, h2, r2⟩ := trodAll_cons r1
  obtain ⟨v3, vs3, d3, ds3, p3, q3, rfl, rfl, rfl, h3, r3⟩ := trodAll_cons r2
  obtain ⟨v4, vs4, d4, ds4, p4, q4, rfl, rfl, rfl, h4, r4⟩ := trodAll_cons r3
  obtain ⟨rfl, rfl, rfl⟩ := trodAll_nil r4
  obtain rfl : args = #[v0, v1, v2, v3, v4] := by cases args; simp_all
  obtain ⟨a0, rfl, _, _, w0⟩ := open_int Try.underlying3 (hval 0 3 v0 rfl rfl) h0
  obtain ⟨a1, rfl, _, _, w1⟩ := open_int Try.underlying3 (hval 1 3 v1 rfl rfl) h1
  obtain ⟨a2, rfl, _, _, w2⟩ := open_int Try.underlying3 (hval 2 3 v2 rfl rfl) h2
  obtain ⟨a3, rfl, _, _, w3⟩ := open_int Try.underlying2 (hval 3 2 v3 rfl rfl) h3
  obtain ⟨a4, rfl, _, _, w4⟩ := open_int Try.underlying2 (hval 4 2 v4 rfl rfl) h4
  refine (walk W a0 w0 a1 w1 a2 w2 a3 w3 a4 w4).mono fun e W' ⟨he, hb⟩ => ?_
  subst he
  exact ⟨_, rfl, Hk.closeLaw (tb := 4) (by kernel_rfl) (by kernel_rfl) rfl rfl rfl Try.underlying4 hW' hb⟩
theorem over : Rows.dealFreeRow.holds Try.pinned (OpenSpec.ofChange Rows.dealFreeSpec) :=
  OpenClaim.holds_of_wide 3 Try.f3 rfl rfl rfl rfl rfl rfl rfl ⟨rfl, rfl, rfl, rfl, rfl⟩ rfl rfl rfl rfl rfl (by kernel_rfl) Try.func3 (by kernel_rfl)
    (of_decide_eq_true (by kernel_rfl)) (by unfold Func.isWrapper; first | (rw [if_pos (by decide +kernel)]; kernel_rfl) | (rw [if_neg (by decide +kernel)]; exact ⟨rfl, rfl⟩))
    (fun os started H enc _ => lifted os started H enc)
theorem proved : Rows.DealFreeSaid :=
  over
end Go.Proofs.Ytljmddjlnlmenaa.dealFree
