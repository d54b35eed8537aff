/- What follows: a bundle's units cost Amount together; so many bundles are made as there are; who is in none is as it was; for every four numbers. No conditions. -/
import Derived.Test.YtljmddjlnlmenaaPk0
import Derived.Test.YtljmddjlnlmenaaPk26
import Derived.Test.YtljmddjlnlmenaaPk27

set_option maxRecDepth 100000
namespace Go.Proofs.Ytljmddjlnlmenaa.dealSums
open Go.ChangeShapes Go.WideShapes Go.ChangeAt Go.RowKit
open Ap (Prm Unt kUnt row_Unt)
open Kd (Kind Row kInt row_int)
open Ko (Out Told Told2 At row_on)
open Dl
open Ct (nth nth_some UnitsMay take_next)
set_option maxRecDepth 100000
set_option linter.unusedVariables false
theorem own : ownKnob Try.prog.godebug = none := by kernel_rfl
set_option maxHeartbeats 8000000 in
theorem walk (w : World) (n0 : Int) (wn : (Lit.int .i64 n0).wf = true) (a0 : Int) (wa : (Lit.int .i64 a0).wf = true) (b0 : Int) (wb : (Lit.int .i64 b0).wf = true) (am0 : Int) (wam : (Lit.int .i64 am0).wf = true) :
    Calls Try.prog 5 #[.int .i64 n0, .int .i64 a0, .int .i64 b0, .int .i64 am0] w fun e w' => e = .returned (.bool true) ∧ Below w.heap.size w w' := by
  have M20 := Lib.hid (Mn.mod_any n0 20 w (by decide) (by decide))
  have MA := Lib.hid (Mn.mod64_any a0 3000 w (by decide) (by decide))
  have MB := Lib.hid (Mn.mod64_any b0 3000 w (by decide) (by decide))
  clear wn wa wb wam
  go_enter Try.func5, Try.ntmps5
  go_wp2_with fail
  refine M20.out.mono ?_
  rintro e wq ⟨⟨r1, h10, h11, rfl⟩, hw⟩
  obtain rfl := hw
  obtain ⟨n, rfl⟩ : ∃ n : Nat, r1 = (n : Int) := ⟨r1.toNat, by omega⟩
  have hn : n < 20 := by omega
  go_wp2_with fail
  refine MA.out.mono ?_
  rintro e wq ⟨⟨r2, h20, h21, rfl⟩, hw⟩
  obtain rfl := hw
  obtain ⟨a, hae⟩ : ∃ a, 1 + r2 = a := ⟨_, rfl⟩
  have wa1 : IntKind.i64.wrap (1 + r2) = a := by rw [hae]; exact IntWalk.i64_in _ (by omega)
  go_wp2_with fail
  refine MB.out.mono ?_
  rintro e wq ⟨⟨r3, h30, h31, rfl⟩, hw⟩
  obtain rfl := hw
  obtain ⟨b, hbe⟩ : ∃ a, 1 + r3 = a := ⟨_, rfl⟩
  have wb1 : IntKind.i64.wrap (1 + r3) = b := by rw [hbe]; exact IntWalk.i64_in _ (by omega)
  have ha : 1 ≤ a ∧ a ≤ 3000 := by omega
  have hb : 1 ≤ b ∧ b ≤ 3000 := by omega
  obtain ⟨S, hS⟩ : ∃ S, a + b = S := ⟨_, rfl⟩
  have ws1 : IntKind.i64.wrap (a + b) = S := by rw [hS]; exact IntWalk.i64_in _ (by omega)
  obtain ⟨T, hT⟩ : ∃ T, S + 10 = T := ⟨_, rfl⟩
  have ws2 : IntKind.i64.wrap (S + 10) = T := by rw [hT]; exact IntWalk.i64_in _ (by omega)
  have M4 := Lib.hid (Mn.mod64_any am0 T w (by omega) (by omega))
  have HN := Lib.hid (And.intro hn (And.intro ha (And.intro hb (And.intro hS hT))))
  clear hae hbe h10 h11 h20 h21 h30 h31 ha hb hS hT M20 MA MB
  go_wp2_with fail
  refine M4.out.mono ?_
  rintro e wq ⟨⟨am, h40, h41, rfl⟩, hw⟩
  obtain rfl := hw
  have HAm : Hid (0 ≤ am ∧ am < a + b + 10) := Lib.hid ⟨h40, by have := HN.out; omega⟩
  clear h40 h41 M4 wa1 wb1 ws1 ws2
  obtain ⟨W1, hW1⟩ : ∃ W1, w.alloc (.cells #[.slice none 0 0, .slice none 0 0, .int .i64 1, .slice none 0 0, .slice none 0 0, .int .i64 1] 42) = W1 := ⟨_, rfl⟩
  have hb1 : Below w.heap.size w W1 := by rw [← hW1]; exact (Below.refl _ _).alloc (Nat.le_refl _) _
  have hs1 : W1.heap.size = w.heap.size + 1 := by rw [← hW1]; simp
  have hp1 : Qu.Blk W1 w.heap.size 42 #[.slice none 0 0, .slice none 0 0, .int .i64 1, .slice none 0 0, .slice none 0 0, .int .i64 1] := by rw [← hW1]; exact Qu.Blk.new w _ _
  obtain ⟨W2, hW2⟩ : ∃ W2, W1.alloc (.cells #[.string ⟨#[97]⟩, .int .i64 4, .int .i64 0, .string ⟨#[]⟩, .string ⟨#[]⟩, .bool true, .slice none 0 0, .slice none 0 0, .int .i64 0, .int .i64 0, .int .i64 am, .int .i64 0, .int .i64 0, .slice (some ⟨w.heap.size, 0, none⟩) 2 2, .slice none 0 0] 30) = W2 := ⟨_, rfl⟩
  have hb2 : Below w.heap.size w W2 := by rw [← hW2]; exact hb1.alloc hb1.size _
  have hs2 : W2.heap.size = w.heap.size + 2 := by rw [← hW2]; simp [hs1]
  have hp2 : Qu.Blk W2 w.heap.size 42 #[.slice none 0 0, .slice none 0 0, .int .i64 1, .slice none 0 0, .slice none 0 0, .int .i64 1] := by rw [← hW2]; exact hp1.alloc _
  have hx2 : Qu.Blk W2 (w.heap.size + 1) 30 #[.string ⟨#[97]⟩, .int .i64 4, .int .i64 0, .string ⟨#[]⟩, .string ⟨#[]⟩, .bool true, .slice none 0 0, .slice none 0 0, .int .i64 0, .int .i64 0, .int .i64 am, .int .i64 0, .int .i64 0, .slice (some ⟨w.heap.size, 0, none⟩) 2 2, .slice none 0 0] := by rw [← hW2, ← hs1]; exact Qu.Blk.new W1 _ _
  have HB2 := Lib.hid (And.intro hb2 (And.intro hp2 (And.intro hx2 hs2)))
  have hw1 := Lib.hid hW1
  have hw2 := Lib.hid hW2
  have hs1 := Lib.hid hs1
  clear hb1 hp1 hb2 hp2 hx2 hs2 hW1 hW2
  go_upto_region 4 with (fail)
  rw [hw1.out, hw2.out]
  clear hw1 hw2 hs1
  go_upto_region 6 with (fail)
  obtain ⟨W3, hW3⟩ : ∃ W3, W2.alloc (.cells #[] 3) = W3 := ⟨_, rfl⟩
  obtain ⟨W4, hW4⟩ : ∃ W4, W3.alloc (.cells #[] 3) = W4 := ⟨_, rfl⟩
  have hs3 : W3.heap.size = W2.heap.size + 1 := by rw [← hW3]; simp
  have hb3 : Below W2.heap.size W2 W3 := by rw [← hW3]; exact (Below.refl _ _).alloc (Nat.le_refl _) _
  have hb4 : Below W2.heap.size W2 W4 := by rw [← hW4]; exact hb3.alloc hb3.size _
  have hi3 : Qu.Blk W3 W2.heap.size 3 #[] := by rw [← hW3]; exact Qu.Blk.new W2 _ _
  have hi4 : Qu.Blk W4 W2.heap.size 3 #[] := by rw [← hW4]; exact hi3.alloc _
  have hj4 : Qu.Blk W4 (W2.heap.size + 1) 3 #[] := by rw [← hW4, ← hs3]; exact Qu.Blk.new W3 _ _
  have HS0 : Hid (Side3 W2 W4 (.slice none 0 0) (.slice (some ⟨W2.heap.size, 0, none⟩) 0 0) (.slice (some ⟨W2.heap.size + 1, 0, none⟩) 0 0) (sumsU a b 0) (xsL 0) (ysL 0)) := Lib.hid ⟨Kd.Own.nil _ _ _ _ _, Kd.own_blk (cs := []) hi4 (Nat.le_refl _) rfl rfl (Nat.le_refl _) (by decide) rfl rfl, Kd.own_blk (cs := []) hj4 (Nat.le_succ _) rfl rfl (Nat.le_refl _) (by decide) rfl rfl, fun b hb hy => by
    injection hb with hb
    injection hy with hy
    have e1 : W2.heap.size = b := hb
    have e2 : W2.heap.size + 1 = b := hy
    omega, hb4⟩
  rw [hW3, hW4]
  clear hW3 hW4 hs3 hb3 hb4 hi3 hi4 hj4
  go_wp2_with fail
  go_loopw [10, 11, 12, 13] (fun s10 s11 s12 s13 wr => ∃ k : Nat, s13 = .int .i64 k ∧ k ≤ n ∧ Hid (Side3 W2 wr s10 s11 s12 (sumsU a b k) (xsL k) (ysL k))) (fun _ _ _ s13 _ => n - (intOf s13).toNat)
  case atStart => exact ⟨0, rfl, by omega, HS0⟩
  case round =>
    obtain ⟨k, rfl, hk, HO⟩ := hrel
    clear HS0
    have kk : (0 : Int) ≤ (k : Int) := by omega
    obtain ⟨C, e5, hv5⟩ := HO.out.u.value
    obtain ⟨D, e6, hv6⟩ := HO.out.i.value
    obtain ⟨E, e7, hv7⟩ := HO.out.j.value
    rw [sumsU_length] at hv5
    have hpf := xsL_few k
    have hqf := ysL_few k
    obtain ⟨xs, hxs⟩ : ∃ xs, xsL k = xs := ⟨_, rfl⟩
    obtain ⟨ys, hys⟩ : ∃ ys, ysL k = ys := ⟨_, rfl⟩
    rw [hxs] at hpf hv6 HO
    rw [hys] at hqf hv7 HO
    obtain ⟨p, hp⟩ : ∃ p, xs.length = p := ⟨_, rfl⟩
    obtain ⟨q, hq⟩ : ∃ q, ys.length = q := ⟨_, rfl⟩
    rw [hp] at hpf hv6
    rw [hq] at hqf hv7
    subst hv5 hv6 hv7
    by_cases hlt : k < n
    · have k1 : (k : Int) < (n : Int) := by omega
      have HL : Hid (xsL k = xs ∧ ysL k = ys ∧ xs.length = p ∧ ys.length = q ∧ k < 20) := Lib.hid ⟨hxs, hys, hp, hq, by have := HN.out.1; omega⟩
      have hou := HO.out.u
      rw [sumsU_length] at hou
      have HW := Lib.hid hou
      have hlow := HO.out.below.size
      have hp20 : p < 20 := by omega
      have hq20 : q < 20 := by omega
      obtain ⟨t, ht, t1, t2, t2'⟩ := rem_free (i := k) (r := 3) (by omega)
      have t1' : (k : Int).tmod 3 = (t : Int) := t1
      have Ht := Lib.hid ht
      clear hou hxs hys hp hq hpf hqf ht t1
      by_cases ht0 : t = 0
      · subst ht0
        have HOk : Hid (Ap.Unt.ok ⟨0, a, true⟩) := Lib.hid ⟨by dsimp only; omega, by have := HN.out.2.1; dsimp only; omega⟩
        have HEq : Hid (unitAt a b k = ⟨0, a, true⟩) := Lib.hid (by unfold unitAt; rw [if_pos Ht.out])
        have t3 : (((0 : Nat) : Int) == 0) = true := rfl
        go_wp2_with (first
          | (at_builtin
             refine Kd.wpList_push (o := ⟨some 52, _, _, _, _, _⟩) (W := wr) (F := fun _ => False) (B := W2.heap.size) (n := k) (v := .slice C k e5) (xs := sumsU a b k) (y := ⟨0, a, true⟩) (cs := [.int .i64 0, .int .i64 a, .bool true]) Ap.Unt.row_t rfl _ _ rfl rfl rfl rfl HW.out (Ap.Unt_rep.2 ⟨rfl, HOk.out⟩) (by clear t1' t2 t2'; omega) (by clear t1' t2 t2'; omega) hlow (fun _ h => h.elim) ?_
             intro g5 cap5 w3 hown hgrow hfr
             have H3 : Hid (Side3 W2 w3 (.slice (some ⟨g5, 0, none⟩) (k + 1) cap5) (.slice D p e6) (.slice E q e7) (sumsU a b (k + 1)) xs ys) := Lib.hid (by
               rw [sumsU_next, HEq.out]
               exact HO.out.pushU (by rw [sumsU_length]; exact hown) hgrow)
             have hoi := H3.out.i
             rw [HL.out.2.2.1] at hoi
             have HW3 := Lib.hid hoi
             have hlow3 := H3.out.below.size
             clear hown hgrow hfr hoi)
          | (at_builtin
             refine Kd.wpList_push (o := ⟨some 56, _, _, _, _, _⟩) (W := w3) (F := fun _ => False) (B := W2.heap.size) (n := p) (v := .slice D p e6) (xs := xs) (y := (k : Int)) (cs := [.int .i64 (k : Int)]) Ap.int_t rfl _ _ rfl rfl rfl rfl HW3.out ⟨rfl, by clear t1' t2 t2'; have := HL.out.2.2.2.2; omega⟩ (by clear t1' t2 t2'; omega) (by clear t1' t2 t2'; omega) hlow3 (fun _ h => h.elim) ?_
             intro g6 cap6 w4 hown hgrow hfr
             have H4 : Hid (Side3 W2 w4 (.slice (some ⟨g5, 0, none⟩) (k + 1) cap5) (.slice (some ⟨g6, 0, none⟩) (p + 1) cap6) (.slice E q e7) (sumsU a b (k + 1)) (xsL (k + 1)) (ysL (k + 1))) := Lib.hid (by
               have h9 := HL.out
               rw [xsL_yes (show k % 3 = 0 from Ht.out), ysL_no (show k % 3 = 0 from Ht.out), h9.1, h9.2.1]
               have h8 := H3.out.pushI (g := g6) (cap := cap6) (z := (k : Int)) (by rw [h9.2.2.1]; exact hown) hgrow hfr
               rw [h9.2.2.1] at h8
               exact h8)
             clear hown hgrow hfr))
        clear t1' t2 t2'
        go_roundw
        case rel => exact ⟨k + 1, by go_num, by omega, H4⟩
        case measure => simp [intOf]; omega
      · have HOk : Hid (Ap.Unt.ok ⟨1, b, true⟩) := Lib.hid ⟨by dsimp only; omega, by have := HN.out.2.2.1; dsimp only; omega⟩
        have HEq : Hid (unitAt a b k = ⟨1, b, true⟩) := Lib.hid (by unfold unitAt; rw [if_neg (by rw [Ht.out]; exact ht0)])
        have Ht0 := Lib.hid ht0
        have t3 : ((t : Int) == 0) = false := by clear t1' t2 t2'; rw [beq_eq_false_iff_ne]; omega
        go_wp2_with (first
          | (at_builtin
             refine Kd.wpList_push (o := ⟨some 61, _, _, _, _, _⟩) (W := wr) (F := fun _ => False) (B := W2.heap.size) (n := k) (v := .slice C k e5) (xs := sumsU a b k) (y := ⟨1, b, true⟩) (cs := [.int .i64 1, .int .i64 b, .bool true]) Ap.Unt.row_t rfl _ _ rfl rfl rfl rfl HW.out (Ap.Unt_rep.2 ⟨rfl, HOk.out⟩) (by clear t1' t2 t2'; omega) (by clear t1' t2 t2'; omega) hlow (fun _ h => h.elim) ?_
             intro g5 cap5 w3 hown hgrow hfr
             have H3 : Hid (Side3 W2 w3 (.slice (some ⟨g5, 0, none⟩) (k + 1) cap5) (.slice D p e6) (.slice E q e7) (sumsU a b (k + 1)) xs ys) := Lib.hid (by
               rw [sumsU_next, HEq.out]
               exact HO.out.pushU (by rw [sumsU_length]; exact hown) hgrow)
             have hoi := H3.out.j
             rw [HL.out.2.2.2.1] at hoi
             have HW3 := Lib.hid hoi
             have hlow3 := H3.out.below.size
             clear hown hgrow hfr hoi)
          | (at_builtin
             refine Kd.wpList_push (o := ⟨some 65, _, _, _, _, _⟩) (W := w3) (F := fun _ => False) (B := W2.heap.size) (n := q) (v := .slice E q e7) (xs := ys) (y := (k : Int)) (cs := [.int .i64 (k : Int)]) Ap.int_t rfl _ _ rfl rfl rfl rfl HW3.out ⟨rfl, by clear t1' t2 t2'; have := HL.out.2.2.2.2; omega⟩ (by clear t1' t2 t2'; omega) (by clear t1' t2 t2'; omega) hlow3 (fun _ h => h.elim) ?_
             intro g6 cap6 w4 hown hgrow hfr
             have H4 : Hid (Side3 W2 w4 (.slice (some ⟨g5, 0, none⟩) (k + 1) cap5) (.slice D p e6) (.slice (some ⟨g6, 0, none⟩) (q + 1) cap6) (sumsU a b (k + 1)) (xsL (k + 1)) (ysL (k + 1))) := Lib.hid (by
               have h9 := HL.out
               rw [xsL_no (show ¬ k % 3 = 0 by rw [Ht.out]; exact Ht0.out), ysL_yes (show ¬ k % 3 = 0 by rw [Ht.out]; exact Ht0.out), h9.1, h9.2.1]
               have h8 := H3.out.pushJ (g := g6) (cap := cap6) (z := (k : Int)) (by rw [h9.2.2.2.1]; exact hown) hgrow hfr
               rw [h9.2.2.2.1] at h8
               exact h8)
             clear hown hgrow hfr))
        clear t1' t2 t2'
        go_roundw
        case rel => exact ⟨k + 1, by go_num, by omega, H4⟩
        case measure => simp [intOf]; omega
    · have k1 : ¬ (k : Int) < (n : Int) := by omega
      obtain rfl : k = n := by omega
      obtain ⟨M, hM⟩ : ∃ M, madeN a b am k = M := ⟨_, rfl⟩
      have hM20 : M ≤ 20 := by rw [← hM]; unfold madeN; split; have := HN.out.1; rw [hxs, hys, hp, hq]; omega; omega
      have hMe : M = if am < a + b then min p q else 0 := by rw [← hM]; unfold madeN; rw [hxs, hys, hp, hq]
      have HX := Lib.hid (HB2.out.2.2.1.below HO.out.below)
      have HPt := Lib.hid (HB2.out.2.1.below HO.out.below)
      have hNN := HN.out
      have HM := Lib.hid hM
      have ws1 : IntKind.i64.wrap (a + b) = S := by rw [hNN.2.2.2.1]; exact IntWalk.i64_in _ (by omega)
      have HL := Lib.hid (And.intro hxs (And.intro hys (And.intro hp hq)))
      have hS6 : S ≤ 6000 := by omega
      have HSe := Lib.hid hNN.2.2.2.1
      clear hM hxs hys hp hq hNN hlt hk
      obtain ⟨bo, hbo⟩ : ∃ bo, decide (am < S) = bo := ⟨_, rfl⟩
      go_upto_if 70 with (fail)
      go_cut [14] from 71 to 75 (fun s14 wx => s14 = .int .i64 (M : Int) ∧ wr = wx)
      case first =>
        cases bo with
        | true =>
          have hab := of_decide_eq_true hbo
          have hSe := HSe.out
          have hMe2 : M = min p q := by rw [hMe, if_pos (by omega)]
          have m1 := fun W => min_two Try.prog #[3, 3] 3 (a := (p : Int)) (b := (q : Int)) (m := (M : Int)) (by omega) W
          clear hMe hMe2 hSe hab hbo
          go_wp2_with fail
          go_meet
          exact ⟨rfl, rfl⟩
        | false =>
          have hab := of_decide_eq_false hbo
          have hSe := HSe.out
          have hMe2 : M = 0 := by rw [hMe, if_neg (by omega)]
          subst hMe2
          clear hMe hSe hab hbo
          go_wp2_with fail
          go_meet
          exact ⟨rfl, rfl⟩
      case rest =>
        obtain ⟨rfl, rfl⟩ := hcut
        clear hMe ws1 hbo
        obtain ⟨W5, hW5⟩ : ∃ W5, wr.alloc (.cells #[.slice D p e6, .slice E q e7] 32) = W5 := ⟨_, rfl⟩
        have hb5 : Below wr.heap.size wr W5 := by rw [← hW5]; exact (Below.refl _ _).alloc (Nat.le_refl _) _
        have hm5 : Qu.Blk W5 wr.heap.size 32 #[.slice D p e6, .slice E q e7] := by rw [← hW5]; exact Qu.Blk.new wr _ _
        have hoi := HO.out.i
        have hoj := HO.out.j
        have hou := HO.out.u
        rw [HL.out.2.2.1] at hoi
        rw [HL.out.2.2.2] at hoj
        rw [sumsU_length] at hou
        have hli : Kd.Lst kInt W5 (· < W5.heap.size) ⟨D, p, e6⟩ xs := ⟨row_on hoi.read hb5, hoi.fit⟩
        have hlj : Kd.Lst kInt W5 (· < W5.heap.size) ⟨E, q, e7⟩ ys := ⟨row_on hoj.read hb5, hoj.fit⟩
        have hH := bw_holds (W := W5) (cl := true) (amount := am) (by have := HAm.out; have := HN.out; omega) (HPt.out.below hb5)
        have H5 := lbundle_any (bwP true am) (noLay ⟨some ⟨w.heap.size, 0, none⟩, 2, 2⟩) C k e5 (sumsU a b k) (some ⟨wr.heap.size, 0, none⟩) 2 2 [xs, ys] W5 hH (Ct.small_of hH (show (0 : Nat) ≤ 40 by decide) (show (0 : Nat) ≤ 40 by decide) (show (2 : Nat) ≤ 20 by decide) (show (0 : Nat) ≤ 20 by decide)) (row_on hou.read hb5) hou.fit (two_ll hli hlj hm5) (by have := HN.out.1; omega) (by decide) (fun x hx => by
          have h1 := HN.out.1
          have h2 := xsL_few k
          have h3 := ysL_few k
          rw [HL.out.1, HL.out.2.2.1] at h2
          rw [HL.out.2.1, HL.out.2.2.2] at h3
          rcases List.mem_cons.1 hx with rfl | hx
          · rw [HL.out.2.2.1]; omega
          · rw [List.mem_singleton.1 hx, HL.out.2.2.2]; omega)
        have hF := sums_is (n := k) HN.out.2.1 HN.out.2.2.1 HN.out.1 HAm.out
        rw [HM.out, HL.out.1, HL.out.2.1] at hF
        obtain ⟨vs, z, hyz⟩ : ∃ (vs : List Unt) (z : Int), bundleU (bwP true am) (sumsU a b k) [xs, ys] = (vs, z) := ⟨_, _, rfl⟩
        rw [hyz] at hF H5
        have H5b : Calls Try.prog 10 #[.agg #[.string ⟨#[97]⟩, .int .i64 4, .int .i64 0, .string ⟨#[]⟩, .string ⟨#[]⟩, .bool true, .slice none 0 0, .slice none 0 0, .int .i64 0, .int .i64 0, .int .i64 am, .int .i64 0, .int .i64 0, .slice (some ⟨w.heap.size, 0, none⟩) 2 2, .slice none 0 0], .slice C k e5, .slice (some ⟨wr.heap.size, 0, none⟩) 2 2] W5 fun e w' => ∃ (A : Option Addr) (c2 : Nat), e = .returned (.tuple #[.slice A k c2, .int .i64 z]) ∧ Kd.Own kUnt w' W5.heap.size 34 (fun _ => False) (.slice A k c2) k vs ∧ Below W5.heap.size W5 w' := by
          have h6 := hF.len
          unfold Ko.Told2 at H5
          rw [show (vs, z).1 = vs from rfl] at h6 H5
          rw [h6] at H5
          exact H5
        have H5h := Lib.hid H5b
        have HF := Lib.hid hF
        have HBw := Lib.hid (HB2.out.1.trans ((HO.out.below.trans (hb5.mono HO.out.below.size)).mono HB2.out.1.size))
        have HU5 := Lib.hid (row_on hou.read hb5)
        have hw5 := Lib.hid hW5
        have hx := HX.out
        have x0 := hx.cell 0
        have x1 := hx.cell 1
        have x2 := hx.cell 2
        have x3 := hx.cell 3
        have x4 := hx.cell 4
        have x5 := hx.cell 5
        have x6 := hx.cell 6
        have x7 := hx.cell 7
        have x8 := hx.cell 8
        have x9 := hx.cell 9
        have x10 := hx.cell 10
        have x11 := hx.cell 11
        have x12 := hx.cell 12
        have x13 := hx.cell 13
        have x14 := hx.cell 14
        clear hb5 hm5 hoi hoj hou hli hlj hH H5 H5b hF hyz hW5 hx HX HPt HO HL
        go_wp2_with fail
        rw [hw5.out]
        clear hw5
        refine H5h.out.mono ?_
        rintro e w6 ⟨A15, c15, rfl, ho6, hb6⟩
        have HY6 := Lib.hid ho6.read
        have HU6 := Lib.hid (row_on HU5.out hb6)
        have HB6 := Lib.hid (HBw.out.trans (hb6.mono HBw.out.size))
        have HA := Lib.hid (awake_any w6)
        have hoff := HF.out.off
        have ham := HAm.out
        have hSe := HN.out.2.2.2.1
        obtain ⟨d, hd⟩ : ∃ d, S - am = d := ⟨_, rfl⟩
        have hz : (M : Int) * d = z := by rw [← hd, ← hSe]; exact hoff.symm
        have hzb : -1000 ≤ z ∧ z ≤ 1000000 := by
          rw [← hz]
          by_cases hd0 : 0 ≤ d
          · have h1 : (M : Int) * d ≤ 20 * 6000 := Int.mul_le_mul (by omega) (by omega) hd0 (by decide)
            have h2 : 0 ≤ (M : Int) * d := Int.mul_nonneg (by omega) hd0
            omega
          · have h0 : M = 0 := by
              rw [← HM.out]
              unfold madeN
              rw [if_neg (by omega)]
            rw [h0]
            omega
        have ws1 : IntKind.i64.wrap (a + b) = S := by rw [hSe]; exact IntWalk.i64_in _ (by omega)
        have ws2 : IntKind.i64.wrap (S - am) = d := by rw [hd]; exact IntWalk.i64_in _ (by omega)
        have ws3 : IntKind.i64.wrap ((M : Int) * d) = z := by rw [hz]; exact IntWalk.i64_in _ (by omega)
        have ws3' : wrap64 ((M : Int) * d) = z := by rw [hz]; exact IntWalk.wrap64_in _ (by omega)
        have e2 : (k : Int) = (k : Int) := rfl
        have hM20h := Lib.hid hM20
        clear x0 x1 x2 x3 x4 x5 x6 x7 x8 x9 x10 x11 x12 x13 x14 hb6 ho6 H5h hoff ham hSe hd hz hzb HU5 HBw hS6 hM20
        go_wp2_with fail
        refine HA.out.mono ?_
        rintro e w7 ⟨rfl, hb7⟩
        have HY7 := Lib.hid (row_on HY6.out hb7)
        have HU7 := Lib.hid (row_on HU6.out hb7)
        have HB7 := Lib.hid (HB6.out.trans (hb7.mono HB6.out.size))
        clear hb7 HA HY6 HU6 HB6
        go_wp2_with fail
        clear ws1 ws2 ws3 ws3' e2
        go_loopw [17, 18] (fun s17 s18 wr => ∃ i : Nat, s18 = .int .i64 i ∧ s17 = .int .i64 ((shutN (vs.take i) : Nat) : Int) ∧ i ≤ k ∧ Hid (Below w7.heap.size w7 wr)) (fun _ s18 _ => k - (intOf s18).toNat)
        case atStart => exact ⟨0, rfl, rfl, by omega, Lib.hid (Below.refl _ _)⟩
        case round =>
          obtain ⟨i, rfl, rfl, hi, HW⟩ := hrel
          have ii : (0 : Int) ≤ (i : Int) := by omega
          obtain ⟨c, hc⟩ : ∃ c, shutN (vs.take i) = c := ⟨_, rfl⟩
          simp only [hc]
          by_cases hlt : i < k
          · have k1 : (i : Int) < (k : Int) := by omega
            have hc20 : c ≤ 20 := by
              rw [← hc]
              unfold shutN
              have h1 := List.countP_le_length (p := fun v : Unt => !v.opn) (l := vs.take i)
              rw [List.length_take] at h1
              have := HN.out.1
              omega
            obtain ⟨v, hv, _, hvo⟩ := HF.out.at_ i hlt
            have hnx := shutN_next hv
            rw [hc] at hnx
            obtain ⟨x, hx⟩ : ∃ x, unitAt a b i = x := ⟨_, rfl⟩
            have hu := sumsU_get (a := a) (b := b) hlt
            rw [hx] at hvo hu
            obtain ⟨g8, o8, rfl, hg8, _, _, v0, v1, v2⟩ := row_Unt HY7.out hv
            obtain ⟨g9, o9, rfl, hg9, _, _, u0, u1, u2⟩ := row_Unt HU7.out hu
            have HI : Hid (i + 1 ≤ k) := Lib.hid hlt
            cases hop : v.opn with
            | false =>
              have HNx : Hid (shutN (vs.take (i + 1)) = c + 1) := Lib.hid (by rw [hnx, hop]; rfl)
              have c2 : wr.cell? ⟨g8, o8 + i * 3 + 2, none⟩ = some (.bool false) := by rw [← hop]; exact (HW.out.cell (p := ⟨g8, _, none⟩) hg8).trans v2
              have wc : IntKind.i64.wrap ((c : Int) + 1) = ((c + 1 : Nat) : Int) := by rw [IntWalk.i64_in _ (by omega)]; rfl
              clear hv hnx hu hx hvo hg8 v0 v1 v2 hg9 u0 u1 u2 hop hc
              go_wp2_with fail
              go_roundw
              case rel => exact ⟨i + 1, by go_num, by rw [HNx.out]; rfl, HI.out, HW⟩
              case measure => simp [intOf]; omega
            | true =>
              have HNx : Hid (shutN (vs.take (i + 1)) = c) := Lib.hid (by rw [hnx, hop]; rfl)
              have hvx := hvo hop
              subst hvx
              have c2 : wr.cell? ⟨g8, o8 + i * 3 + 2, none⟩ = some (.bool true) := by rw [← hop]; exact (HW.out.cell (p := ⟨g8, _, none⟩) hg8).trans v2
              rw [hop] at v2 u2
              have cv0 : ∀ W, Below w7.heap.size w7 W → W.cell? ⟨g8, o8 + i * 3, none⟩ = some (.int .i64 v.line) := fun W h => (h.cell (p := ⟨g8, _, none⟩) hg8).trans v0
              have cv1 : ∀ W, Below w7.heap.size w7 W → W.cell? ⟨g8, o8 + i * 3 + 1, none⟩ = some (.int .i64 v.net) := fun W h => (h.cell (p := ⟨g8, _, none⟩) hg8).trans v1
              have cv2 : ∀ W, Below w7.heap.size w7 W → W.cell? ⟨g8, o8 + i * 3 + 2, none⟩ = some (.bool true) := fun W h => (h.cell (p := ⟨g8, _, none⟩) hg8).trans v2
              have cu0 : ∀ W, Below w7.heap.size w7 W → W.cell? ⟨g9, o9 + i * 3, none⟩ = some (.int .i64 v.line) := fun W h => (h.cell (p := ⟨g9, _, none⟩) hg9).trans u0
              have cu1 : ∀ W, Below w7.heap.size w7 W → W.cell? ⟨g9, o9 + i * 3 + 1, none⟩ = some (.int .i64 v.net) := fun W h => (h.cell (p := ⟨g9, _, none⟩) hg9).trans u1
              have cu2 : ∀ W, Below w7.heap.size w7 W → W.cell? ⟨g9, o9 + i * 3 + 2, none⟩ = some (.bool true) := fun W h => (h.cell (p := ⟨g9, _, none⟩) hg9).trans u2
              clear hv hnx hu hx hvo hg8 v0 v1 v2 hg9 u0 u1 u2 hop hc
              have HW2 := HW.out
              go_upto_region 24 with (fail)
              clear c2
              refine wp_region_held_drew (S := fun u => Below w7.heap.size w7 u) (by kernel_rfl) (HW2.drew) (fun hS0 => ?_)
              refine pkT 0 117 hS0 ?_
              try simp only [Act.put, pkA, pkB, pkC]
              refine pkT 1 118 hS0 ?_
              try simp only [Act.put, pkA, pkB, pkC]
              refine pkT 2 119 hS0 ?_
              try simp only [Act.put, pkA, pkB, pkC]
              refine pkT 3 120 hS0 ?_
              try simp only [Act.put, pkA, pkB, pkC]
              refine pkT 4 121 hS0 ?_
              try simp only [Act.put, pkA, pkB, pkC]
              refine pkT 5 122 hS0 ?_
              try simp only [Act.put, pkA, pkB, pkC]
              refine pkT 6 123 hS0 ?_
              try simp only [Act.put, pkA, pkB, pkC]
              refine pkT 7 124 hS0 ?_
              try simp only [Act.put, pkA, pkB, pkC]
              refine pkT 8 125 hS0 ?_
              try simp only [Act.put, pkA, pkB, pkC]
              refine wpAnyH_done (by kernel_rfl) ?_ _
              have HWz := Lib.hid hS0
              clear hS0
              go_wp2_with fail
              go_roundw
              case rel => exact ⟨i + 1, by go_num, by rw [HNx.out], HI.out, HWz⟩
              case measure => simp [intOf]; omega
          · have k1 : ¬ (i : Int) < (k : Int) := by omega
            obtain rfl : i = k := by omega
            have hsh := HF.out.shut
            rw [List.take_of_length_le (by rw [HF.out.len]; exact Nat.le_refl _), show (vs, z).1 = vs from rfl] at *
            have wc : IntKind.i64.wrap (2 * (M : Int)) = (c : Int) := by rw [IntWalk.i64_in _ (by have := hM20h.out; omega)]; omega
            have wc' : wrap64 (2 * (M : Int)) = (c : Int) := by rw [IntWalk.wrap64_in _ (by have := hM20h.out; omega)]; omega
            have HE : Hid (Below w.heap.size w wr) := Lib.hid (HB7.out.trans (HW.out.mono HB7.out.size))
            clear hsh hc
            go_wp2
            go_ret
            exact ⟨rfl, HE.out⟩
set_option maxRecDepth 100000 in
theorem lifted (os : Os) (started : os.Started) (H : Type) (enc : TypeId × Value → H) :
    ReturnsInHanded {} Try.checked os 5 .any (Rows.dealSumsSpec.pre6 enc Try.prog Try.f5 Rows.dealSumsRow.domain false) (Rows.dealSumsSpec.post enc Try.prog Try.f5 false true false false) := by
  refine returnsInHanded_of_change (C := Try.checked) own started (by kernel_rfl) Try.func5
    (ChangeSpec.witness6 (enc := enc) (C := Try.checked) false ⟨#[], #[.int .i64 0, .int .i64 0, .int .i64 0, .int .i64 0], []⟩ 8 (by kernel_rfl) (by kernel_rfl) (by kernel_rfl) (by kernel_rfl)) ?_
  intro W base args ds gs before hval0 hW hcnd _
  have hval : ∀ (j : Nat) t v, Try.f5.params[j]? = some t → args[j]? = some v → Value.okWide Try.prog W .any base t v := hval0
  have hW' := hW
  obtain ⟨p, q, hA0, hV, rfl, hfz, hnd⟩ := hW
  have hA : DataW.TrodAll enc Try.prog W 0 (fun _ => true) true Try.f5.params.toList args.toList ds p := hA0
  rw [Try.params5] at hA hval
  obtain ⟨v0, vs0, d0, ds0, p0, q0, hargs, rfl, rfl, h0, r0⟩ := trodAll_cons hA
  obtain ⟨v1, vs1, d1, ds1, p1, q1, rfl, rfl, rfl, h1, r1⟩ := trodAll_cons r0
  obtain ⟨v2, vs2, d2, ds2, p2, q2, rfl, rfl, rfl, h2, r2⟩ := trodAll_cons r1
  obtain ⟨v3, vs3, d3, ds3, p3, q3, rfl, rfl, rfl, h3, r3⟩ := trodAll_cons r2
  obtain ⟨rfl, rfl, rfl⟩ := trodAll_nil r3
  obtain rfl : args = #[v0, v1, v2, v3] := by cases args; simp_all
  obtain ⟨a0, rfl, _, _, w0⟩ := open_int Try.underlying3 (hval 0 3 v0 rfl rfl) h0
  obtain ⟨a1, rfl, _, _, w1⟩ := open_int Try.underlying2 (hval 1 2 v1 rfl rfl) h1
  obtain ⟨a2, rfl, _, _, w2⟩ := open_int Try.underlying2 (hval 2 2 v2 rfl rfl) h2
  obtain ⟨a3, rfl, _, _, w3⟩ := open_int Try.underlying2 (hval 3 2 v3 rfl rfl) h3
  refine (walk W a0 w0 a1 w1 a2 w2 a3 w3).mono fun e W' ⟨he, hb⟩ => ?_
  subst he
  exact ⟨_, rfl, Hk.closeLaw (tb := 4) (by kernel_rfl) (by kernel_rfl) rfl rfl rfl Try.underlying4 hW' hb⟩
theorem over : Rows.dealSumsRow.holds Try.pinned (OpenSpec.ofChange Rows.dealSumsSpec) :=
  OpenClaim.holds_of_wide 5 Try.f5 rfl rfl rfl rfl rfl rfl rfl ⟨rfl, rfl, rfl, rfl, rfl⟩ rfl rfl rfl rfl rfl (by kernel_rfl) Try.func5 (by kernel_rfl)
    (of_decide_eq_true (by kernel_rfl)) (by unfold Func.isWrapper; first | (rw [if_pos (by decide +kernel)]; kernel_rfl) | (rw [if_neg (by decide +kernel)]; exact ⟨rfl, rfl⟩))
    (fun os started H enc _ => lifted os started H enc)
theorem proved : Rows.DealSumsSaid :=
  over
end Go.Proofs.Ytljmddjlnlmenaa.dealSums
