/- P12.1: a promo that may be with one thing turned, of each kind; for every promo, two numbers and text. No conditions. -/
import Derived.Test.YtgimcleeamlgcaaPmI
import Derived.Test.YtgimcleeamlgcaaBa
set_option maxRecDepth 100000
namespace Go.Proofs.Ytgimcleeamlgcaa.promoTurned
open Go.ChangeShapes Go.WideShapes Go.ChangeAt Go.RowKit
open Ap (Scp Prt Tir Prm kPrm row_Prm)
open Kd (Kind Row Own Cells Fit Agree Lst Sl kStr kInt kList row_str Deep)
set_option maxRecDepth 100000
set_option linter.unusedVariables false

theorem own : ownKnob Try.prog.godebug = none := by kernel_rfl

set_option maxHeartbeats 2000000 in
theorem walk (w : World) (p : Prm) (l : Prm.Lay) (h0 : Ap.Prm.Holds w (· < w.heap.size) p l) (a1 : Int) (w1 : (Lit.int .i64 a1).wf = true) (a2 : Int) (w2 : (Lit.int .i64 a2).wf = true) (s : ByteArray) (hs : s.size ≤ maxLen) :
    Calls Try.prog 4 #[.agg #[.string p.id, .int .i64 p.kind, .int .i64 p.priority, .string p.group, .string p.code, .bool p.closes, .slice l.scope.skus.A l.scope.skus.n l.scope.skus.c, .slice l.scope.cats.A l.scope.cats.n l.scope.cats.c, .int .i64 p.least, .int .i64 p.rate, .int .i64 p.amount, .int .i64 p.buy, .int .i64 p.get, .slice l.parts.A l.parts.n l.parts.c, .slice l.tiers.A l.tiers.n l.tiers.c], .int .i64 a1, .int .i64 a2, .string s] w fun e w' => e = .returned (.bool true) ∧ Below w.heap.size w w' := by
  obtain ⟨W1, hW1⟩ : ∃ W1, w.alloc (.cells #[.string p.id, .int .i64 p.kind, .int .i64 p.priority, .string p.group, .string p.code, .bool p.closes, .slice l.scope.skus.A l.scope.skus.n l.scope.skus.c, .slice l.scope.cats.A l.scope.cats.n l.scope.cats.c, .int .i64 p.least, .int .i64 p.rate, .int .i64 p.amount, .int .i64 p.buy, .int .i64 p.get, .slice l.parts.A l.parts.n l.parts.c, .slice l.tiers.A l.tiers.n l.tiers.c] 28) = W1 := ⟨_, rfl⟩
  have hb1 : Below w.heap.size w W1 := by rw [← hW1]; exact (Below.refl _ _).alloc (Nat.le_refl _) _
  have hblk : Qu.Blk W1 w.heap.size 28 #[.string p.id, .int .i64 p.kind, .int .i64 p.priority, .string p.group, .string p.code, .bool p.closes, .slice l.scope.skus.A l.scope.skus.n l.scope.skus.c, .slice l.scope.cats.A l.scope.cats.n l.scope.cats.c, .int .i64 p.least, .int .i64 p.rate, .int .i64 p.amount, .int .i64 p.buy, .int .i64 p.get, .slice l.parts.A l.parts.n l.parts.c, .slice l.tiers.A l.tiers.n l.tiers.c] := by rw [← hW1]; exact Qu.Blk.new w _ _
  have HFW := Lib.hid (Pm.few_any p l W1 (Pr.holds_later h0 hb1))
  have HBx : Hid (Pm.Slight p → Pm.Boxed w W1 w.heap.size p l) := Lib.hid fun hs => by rw [← hW1]; exact Pm.Boxed.begin h0 hs
  have HB1 := Lib.hid (And.intro hb1 hblk)
  have x0 := hblk.cell 0
  have x1 := hblk.cell 1
  have x2 := hblk.cell 2
  have x3 := hblk.cell 3
  have x4 := hblk.cell 4
  have x5 := hblk.cell 5
  have x6 := hblk.cell 6
  have x7 := hblk.cell 7
  have x8 := hblk.cell 8
  have x9 := hblk.cell 9
  have x10 := hblk.cell 10
  have x11 := hblk.cell 11
  have x12 := hblk.cell 12
  have x13 := hblk.cell 13
  have x14 := hblk.cell 14
  have hn2 : -9223372036854775808 ≤ a2 ∧ a2 ≤ 9223372036854775807 := Hk.wf_bounds w2
  clear h0 hb1 hblk w1 w2
  go_enter Try.func4, Try.ntmps4
  go_wp2_with fail
  clear hW1
  refine HFW.out.mono ?_
  rintro e v2 ⟨b, rfl, hfew, hb2⟩
  cases b with
  | false =>
    have HA := Lib.hid (Pm.awake_any v2)
    have HB := Lib.hid (HB1.out.1.trans (hb2.mono HB1.out.1.size))
    clear hb2 hfew HFW HBx x0 x1 x2 x3 x4 x5 x6 x7 x8 x9 x10 x11 x12 x13 x14
    go_wp2_with fail
    refine HA.out.mono ?_
    rintro e w3 ⟨rfl, hb3⟩
    have HB3 := Lib.hid (HB.out.trans (hb3.mono HB.out.size))
    clear hb3
    go_wp2
    go_ret
    exact ⟨rfl, HB3.out⟩
  | true =>
    have HS := Lib.hid (hfew rfl).slight
    have HX := Lib.hid ((HBx.out HS.out).later hb2)
    clear hb2 hfew HFW HBx HB1 x0 x1 x2 x3 x4 x5 x6 x7 x8 x9 x10 x11 x12 x13 x14
    by_cases hs60 : 60 < s.size
    · have k1 : (60 : Int) < (s.size : Int) := by omega
      have HA := Lib.hid (Pm.awake_any v2)
      have x0 := HX.out.blk.cell 0
      have x1 := HX.out.blk.cell 1
      have x2 := HX.out.blk.cell 2
      have x3 := HX.out.blk.cell 3
      have x4 := HX.out.blk.cell 4
      have x5 := HX.out.blk.cell 5
      have x6 := HX.out.blk.cell 6
      have x7 := HX.out.blk.cell 7
      have x8 := HX.out.blk.cell 8
      have x9 := HX.out.blk.cell 9
      have x10 := HX.out.blk.cell 10
      have x11 := HX.out.blk.cell 11
      have x12 := HX.out.blk.cell 12
      have x13 := HX.out.blk.cell 13
      have x14 := HX.out.blk.cell 14
      go_wp2_with fail
      refine HA.out.mono ?_
      rintro e w3 ⟨rfl, hb3⟩
      have HB3 := Lib.hid (HX.out.later hb3).below
      clear hb3 x0 x1 x2 x3 x4 x5 x6 x7 x8 x9 x10 x11 x12 x13 x14
      go_wp2
      go_ret
      exact ⟨rfl, HB3.out⟩
    have k1 : ¬ (60 : Int) < (s.size : Int) := by omega
    have HP := Lib.hid (Py.promo_any p l 3 v2 HX.out.all (HS.out.small HX.out.all))
    have x0 := HX.out.blk.cell 0
    have x1 := HX.out.blk.cell 1
    have x2 := HX.out.blk.cell 2
    have x3 := HX.out.blk.cell 3
    have x4 := HX.out.blk.cell 4
    have x5 := HX.out.blk.cell 5
    have x6 := HX.out.blk.cell 6
    have x7 := HX.out.blk.cell 7
    have x8 := HX.out.blk.cell 8
    have x9 := HX.out.blk.cell 9
    have x10 := HX.out.blk.cell 10
    have x11 := HX.out.blk.cell 11
    have x12 := HX.out.blk.cell 12
    have x13 := HX.out.blk.cell 13
    have x14 := HX.out.blk.cell 14
    have xf := HX.out.blk.frozen
    go_wp2_with fail
    refine HP.out.mono ?_
    rintro e w3 ⟨q, m, rfl, hq1, hq2, hq3, hq4⟩
    have hsl : Pm.Slight q := ⟨by have := hq3.1; omega, by have := hq3.2.1; omega, fun k x hx => by have := hq3.2.2.2.2 k x hx; omega, by have := hq3.2.2.2.1; omega, by have := hq3.2.2.1; omega⟩
    obtain ⟨w4, hW4⟩ : ∃ w4, (World.setCell (World.setCell (World.setCell (World.setCell (World.setCell (World.setCell (World.setCell (World.setCell (World.setCell (World.setCell (World.setCell (World.setCell (World.setCell (World.setCell (World.setCell w3 ⟨w.heap.size, 0, none⟩ (.string q.id)) ⟨w.heap.size, 1, none⟩ (.int .i64 q.kind)) ⟨w.heap.size, 2, none⟩ (.int .i64 q.priority)) ⟨w.heap.size, 3, none⟩ (.string q.group)) ⟨w.heap.size, 4, none⟩ (.string q.code)) ⟨w.heap.size, 5, none⟩ (.bool q.closes)) ⟨w.heap.size, 6, none⟩ (.slice m.scope.skus.A m.scope.skus.n m.scope.skus.c)) ⟨w.heap.size, 7, none⟩ (.slice m.scope.cats.A m.scope.cats.n m.scope.cats.c)) ⟨w.heap.size, 8, none⟩ (.int .i64 q.least)) ⟨w.heap.size, 9, none⟩ (.int .i64 q.rate)) ⟨w.heap.size, 10, none⟩ (.int .i64 q.amount)) ⟨w.heap.size, 11, none⟩ (.int .i64 q.buy)) ⟨w.heap.size, 12, none⟩ (.int .i64 q.get)) ⟨w.heap.size, 13, none⟩ (.slice m.parts.A m.parts.n m.parts.c)) ⟨w.heap.size, 14, none⟩ (.slice m.tiers.A m.tiers.n m.tiers.c)) = w4 := ⟨_, rfl⟩
    obtain ⟨B, HQ⟩ : ∃ B, Hid (Pm.Bx w w4 B w.heap.size q m) := ⟨_, Lib.hid (by rw [← hW4]; exact Pm.Bx.first HX.out hq4 hsl)⟩
    have HF := Lib.hid hq3
    have hbk := HX.out.blk.below hq4.below
    clear hq1 hq2 hq3 hsl x0 x1 x2 x3 x4 x5 x6 x7 x8 x9 x10 x11 x12 x13 x14 xf HP
    have x0 := hbk.cell 0
    have x1 := hbk.cell 1
    have x2 := hbk.cell 2
    have x3 := hbk.cell 3
    have x4 := hbk.cell 4
    have x5 := hbk.cell 5
    have x6 := hbk.cell 6
    have x7 := hbk.cell 7
    have x8 := hbk.cell 8
    have x9 := hbk.cell 9
    have x10 := hbk.cell 10
    have x11 := hbk.cell 11
    have x12 := hbk.cell 12
    have x13 := hbk.cell 13
    have x14 := hbk.cell 14
    have xf := hbk.frozen
    clear hq4 hbk
    unfold Ap.Prm.enc
    have HW4 := Lib.hid hW4
    clear hW4
    obtain ⟨t, ht⟩ : ∃ t, Py.modN a1 16 = t := ⟨_, rfl⟩
    have ht16 := Py.modN_lt a1 16 (by omega)
    have HM := Lib.hid (fun W => Py.mod_any a1 16 W (by omega) (by omega))
    rw [ht] at ht16
    simp only [ht] at HM
    clear ht
    obtain ⟨t10, ht10⟩ : ∃ t, Py.modN a2 10 = t := ⟨_, rfl⟩
    have h10 := Py.modN_lt a2 10 (by omega)
    have HM1 := Lib.hid (fun W => Py.mod_any a2 10 W (by omega) (by omega))
    rw [ht10] at h10
    simp only [ht10] at HM1
    obtain ⟨z1, hz1⟩ : ∃ z : Int, (t10 : Int) - 1 = z := ⟨_, rfl⟩
    have q1 : IntKind.i64.wrap ((t10 : Int) - 1) = z1 := by rw [IntWalk.i64_in _ (by omega)]; exact hz1
    have Hz1 : Hid (-9223372036854775808 ≤ z1 ∧ z1 ≤ 9223372036854775807) := Lib.hid (by omega)
    obtain ⟨t104, ht104⟩ : ∃ t, Py.modN a2 104 = t := ⟨_, rfl⟩
    have h104 := Py.modN_lt a2 104 (by omega)
    have HM2 := Lib.hid (fun W => Py.mod_any a2 104 W (by omega) (by omega))
    rw [ht104] at h104
    simp only [ht104] at HM2
    obtain ⟨z, hz⟩ : ∃ z : Int, (t104 : Int) - 1 = z := ⟨_, rfl⟩
    have q2 : IntKind.i64.wrap ((t104 : Int) - 1) = z := by rw [IntWalk.i64_in _ (by omega)]; exact hz
    have Hz : Hid (-9223372036854775808 ≤ z ∧ z ≤ 9223372036854775807) := Lib.hid (by omega)
    have Hn2 := Lib.hid hn2
    have Hs := Lib.hid hs
    clear ht10 h10 hz1 ht104 h104 hz hn2 hs
    go_wp2_with fail
    rw [HW4.out]
    refine (HM.out _).mono ?_
    rintro e w5 ⟨rfl, rfl⟩
    clear HW4 HX HM x0 x1 x2 x3 x4 x5 x6 x7 x8 x9 x10 x11 x12 x13 x14 xf
    go_upto_block 0 with (fail)
    go_cut [] (fun wx => Hid (∃ B q m, Pm.Bx w wx B w.heap.size q m))
    case first =>
      obtain ⟨n1, n2, n3, n4, n5, n6, n7, n8, n9, n10⟩ := HQ.out.nums
      have HN := Lib.hid (And.intro n1 (And.intro n2 (And.intro n3 (And.intro n4 (And.intro n5 (And.intro n6 (And.intro n7 (And.intro n8 (And.intro n9 n10)))))))))
      clear n1 n2 n3 n4 n5 n6 n7 n8 n9 n10
      have e0 := HQ.out.blk.cell 0
      have e1 := HQ.out.blk.cell 1
      have e2 := HQ.out.blk.cell 2
      have e3 := HQ.out.blk.cell 3
      have e4 := HQ.out.blk.cell 4
      have e5 := HQ.out.blk.cell 5
      have e6 := HQ.out.blk.cell 6
      have e7 := HQ.out.blk.cell 7
      have e8 := HQ.out.blk.cell 8
      have e9 := HQ.out.blk.cell 9
      have e10 := HQ.out.blk.cell 10
      have e11 := HQ.out.blk.cell 11
      have e12 := HQ.out.blk.cell 12
      have e13 := HQ.out.blk.cell 13
      have e14 := HQ.out.blk.cell 14
      have ef := HQ.out.blk.frozen
      have ht : t = 0 ∨ t = 1 ∨ t = 2 ∨ t = 3 ∨ t = 4 ∨ t = 5 ∨ t = 6 ∨ t = 7 ∨ t = 8 ∨ t = 9 ∨ t = 10 ∨ t = 11 ∨ t = 12 ∨ t = 13 ∨ t = 14 ∨ t = 15 := by omega
      clear ht16
      rcases ht with rfl | rfl | rfl | rfl | rfl | rfl | rfl | rfl | rfl | rfl | rfl | rfl | rfl | rfl | rfl | rfl
      · go_wp2_with fail
        go_meet
        exact Lib.hid ⟨_, { q with id := s }, m, HQ.out.stored HQ.out.sz HQ.out.below HQ.out.lists (HQ.out.blk.put 0 _) ⟨Hs.out, HN.out.2.1, HN.out.2.2.1, HN.out.2.2.2.1, HN.out.2.2.2.2.1, HN.out.2.2.2.2.2.1, HN.out.2.2.2.2.2.2.1, HN.out.2.2.2.2.2.2.2.1, HN.out.2.2.2.2.2.2.2.2.1, HN.out.2.2.2.2.2.2.2.2.2⟩ ⟨HQ.out.slight.skus, HQ.out.slight.cats, HQ.out.slight.each, HQ.out.slight.parts, HQ.out.slight.tiers⟩⟩
      · go_wp2_with fail
        refine (HM1.out _).mono ?_
        rintro e w6 ⟨rfl, rfl⟩
        go_wp2_with fail
        go_meet
        exact Lib.hid ⟨_, { q with kind := z1 }, m, HQ.out.stored HQ.out.sz HQ.out.below HQ.out.lists (HQ.out.blk.put 1 _) ⟨HN.out.1, HN.out.2.1, HN.out.2.2.1, Hz1.out, HN.out.2.2.2.2.1, HN.out.2.2.2.2.2.1, HN.out.2.2.2.2.2.2.1, HN.out.2.2.2.2.2.2.2.1, HN.out.2.2.2.2.2.2.2.2.1, HN.out.2.2.2.2.2.2.2.2.2⟩ ⟨HQ.out.slight.skus, HQ.out.slight.cats, HQ.out.slight.each, HQ.out.slight.parts, HQ.out.slight.tiers⟩⟩
      · go_wp2_with fail
        go_meet
        exact Lib.hid ⟨_, { q with priority := a2 }, m, HQ.out.stored HQ.out.sz HQ.out.below HQ.out.lists (HQ.out.blk.put 2 _) ⟨HN.out.1, HN.out.2.1, HN.out.2.2.1, HN.out.2.2.2.1, Hn2.out, HN.out.2.2.2.2.2.1, HN.out.2.2.2.2.2.2.1, HN.out.2.2.2.2.2.2.2.1, HN.out.2.2.2.2.2.2.2.2.1, HN.out.2.2.2.2.2.2.2.2.2⟩ ⟨HQ.out.slight.skus, HQ.out.slight.cats, HQ.out.slight.each, HQ.out.slight.parts, HQ.out.slight.tiers⟩⟩
      · go_wp2_with fail
        go_meet
        exact Lib.hid ⟨_, { q with group := s }, m, HQ.out.stored HQ.out.sz HQ.out.below HQ.out.lists (HQ.out.blk.put 3 _) ⟨HN.out.1, Hs.out, HN.out.2.2.1, HN.out.2.2.2.1, HN.out.2.2.2.2.1, HN.out.2.2.2.2.2.1, HN.out.2.2.2.2.2.2.1, HN.out.2.2.2.2.2.2.2.1, HN.out.2.2.2.2.2.2.2.2.1, HN.out.2.2.2.2.2.2.2.2.2⟩ ⟨HQ.out.slight.skus, HQ.out.slight.cats, HQ.out.slight.each, HQ.out.slight.parts, HQ.out.slight.tiers⟩⟩
      · go_wp2_with fail
        go_meet
        exact Lib.hid ⟨_, { q with code := s }, m, HQ.out.stored HQ.out.sz HQ.out.below HQ.out.lists (HQ.out.blk.put 4 _) ⟨HN.out.1, HN.out.2.1, Hs.out, HN.out.2.2.2.1, HN.out.2.2.2.2.1, HN.out.2.2.2.2.2.1, HN.out.2.2.2.2.2.2.1, HN.out.2.2.2.2.2.2.2.1, HN.out.2.2.2.2.2.2.2.2.1, HN.out.2.2.2.2.2.2.2.2.2⟩ ⟨HQ.out.slight.skus, HQ.out.slight.cats, HQ.out.slight.each, HQ.out.slight.parts, HQ.out.slight.tiers⟩⟩
      · go_wp2_with fail
        go_meet
        exact Lib.hid ⟨_, { q with least := a2 }, m, HQ.out.stored HQ.out.sz HQ.out.below HQ.out.lists (HQ.out.blk.put 8 _) ⟨HN.out.1, HN.out.2.1, HN.out.2.2.1, HN.out.2.2.2.1, HN.out.2.2.2.2.1, Hn2.out, HN.out.2.2.2.2.2.2.1, HN.out.2.2.2.2.2.2.2.1, HN.out.2.2.2.2.2.2.2.2.1, HN.out.2.2.2.2.2.2.2.2.2⟩ ⟨HQ.out.slight.skus, HQ.out.slight.cats, HQ.out.slight.each, HQ.out.slight.parts, HQ.out.slight.tiers⟩⟩
      · go_wp2_with fail
        go_meet
        exact Lib.hid ⟨_, { q with rate := a2 }, m, HQ.out.stored HQ.out.sz HQ.out.below HQ.out.lists (HQ.out.blk.put 9 _) ⟨HN.out.1, HN.out.2.1, HN.out.2.2.1, HN.out.2.2.2.1, HN.out.2.2.2.2.1, HN.out.2.2.2.2.2.1, Hn2.out, HN.out.2.2.2.2.2.2.2.1, HN.out.2.2.2.2.2.2.2.2.1, HN.out.2.2.2.2.2.2.2.2.2⟩ ⟨HQ.out.slight.skus, HQ.out.slight.cats, HQ.out.slight.each, HQ.out.slight.parts, HQ.out.slight.tiers⟩⟩
      · go_wp2_with fail
        go_meet
        exact Lib.hid ⟨_, { q with amount := a2 }, m, HQ.out.stored HQ.out.sz HQ.out.below HQ.out.lists (HQ.out.blk.put 10 _) ⟨HN.out.1, HN.out.2.1, HN.out.2.2.1, HN.out.2.2.2.1, HN.out.2.2.2.2.1, HN.out.2.2.2.2.2.1, HN.out.2.2.2.2.2.2.1, Hn2.out, HN.out.2.2.2.2.2.2.2.2.1, HN.out.2.2.2.2.2.2.2.2.2⟩ ⟨HQ.out.slight.skus, HQ.out.slight.cats, HQ.out.slight.each, HQ.out.slight.parts, HQ.out.slight.tiers⟩⟩
      · go_wp2_with fail
        refine (HM2.out _).mono ?_
        rintro e w6 ⟨rfl, rfl⟩
        go_wp2_with fail
        go_meet
        exact Lib.hid ⟨_, { q with buy := z }, m, HQ.out.stored HQ.out.sz HQ.out.below HQ.out.lists (HQ.out.blk.put 11 _) ⟨HN.out.1, HN.out.2.1, HN.out.2.2.1, HN.out.2.2.2.1, HN.out.2.2.2.2.1, HN.out.2.2.2.2.2.1, HN.out.2.2.2.2.2.2.1, HN.out.2.2.2.2.2.2.2.1, Hz.out, HN.out.2.2.2.2.2.2.2.2.2⟩ ⟨HQ.out.slight.skus, HQ.out.slight.cats, HQ.out.slight.each, HQ.out.slight.parts, HQ.out.slight.tiers⟩⟩
      · go_wp2_with fail
        refine (HM2.out _).mono ?_
        rintro e w6 ⟨rfl, rfl⟩
        go_wp2_with fail
        go_meet
        exact Lib.hid ⟨_, { q with get := z }, m, HQ.out.stored HQ.out.sz HQ.out.below HQ.out.lists (HQ.out.blk.put 12 _) ⟨HN.out.1, HN.out.2.1, HN.out.2.2.1, HN.out.2.2.2.1, HN.out.2.2.2.2.1, HN.out.2.2.2.2.2.1, HN.out.2.2.2.2.2.2.1, HN.out.2.2.2.2.2.2.2.1, HN.out.2.2.2.2.2.2.2.2.1, Hz.out⟩ ⟨HQ.out.slight.skus, HQ.out.slight.cats, HQ.out.slight.each, HQ.out.slight.parts, HQ.out.slight.tiers⟩⟩
      · have HBd := Lib.hid (HQ.out.later (Below.refl _ _).drew)
        have hpl : q.parts.length = m.parts.n := HQ.out.lists.parts.1
        have hpn : Hid (q.parts.length ≤ 3) := Lib.hid HF.out.2.2.2.1
        have hpm : m.parts.n ≤ 3 := by have := hpn.out; omega
        have hzz := Hz
        have hBsz : B ≤ w5.drew.heap.size := by have h1 := HQ.out.sz; exact h1
        have hrep : Hid (Ap.kPrt.rep w5.drew (Pm.PF w5.drew B m) ⟨⟨[], []⟩, z⟩ [.slice none 0 0, .slice none 0 0, .int .i64 z]) := Lib.hid (Ap.Prt_rep.2 ⟨⟨⟨⟨none, 0, 0⟩, ⟨none, 0, 0⟩⟩⟩, rfl, ⟨⟨⟨(Own.nil kStr w5.drew 0 0 _).row fun g hg => (by cases hg), (Own.nil kStr w5.drew 0 0 (fun _ => False)).fit⟩, ⟨(Own.nil kStr w5.drew 0 0 _).row fun g hg => (by cases hg), (Own.nil kStr w5.drew 0 0 (fun _ => False)).fit⟩⟩, Hz.out⟩⟩)
        have x13a : ∀ o : Obj, (w5.alloc o).cell? ⟨w.heap.size, 13, none⟩ = some (.slice m.parts.A m.parts.n m.parts.c) := fun o => (HQ.out.blk.alloc o).cell 13
        clear hpl
        go_wp2_with fail
        refine wp_region_held_drew (S := fun _ => True) (by kernel_rfl) (trivial) (fun hS0 => ?_)
        refine wpAnyH_take (i := 0) (oi := ⟨some 71, _, _, _, _, _⟩) (v := ?_) rfl (by kernel_rfl) (by kernel_rfl) (by kernel_rfl) (fun _ _ _ h => h) (Or.inl ⟨by rfl, ?_⟩) hS0 ?_
        rotate_left
        · (intro wq hSw; (try dsimp only at hSw); go_simp; all_goals (with_reducible rfl))
        try simp only [Act.put, List.setIfInBounds_toArray, List.set_cons_zero, List.set_cons_succ]
        refine wpAnyH_take (i := 2) (oi := ⟨some 73, _, _, _, _, _⟩) (v := ?_) rfl (by kernel_rfl) (by kernel_rfl) (by kernel_rfl) (fun _ _ _ h => h) (Or.inl ⟨by rfl, ?_⟩) hS0 ?_
        rotate_left
        · (intro wq hSw; (try dsimp only at hSw); go_simp; all_goals (with_reducible rfl))
        try simp only [Act.put, List.setIfInBounds_toArray, List.set_cons_zero, List.set_cons_succ]
        refine wpAnyH_ready (rs := [1, 3]) (by kernel_rfl) (by simp) ?_
        refine AllReadyH.cons (o := ⟨some 72, _, _, _, _, _⟩) rfl (fun K hK => ?_) ?_
        ·
          go_simp
          refine hK.out _ _ (hS0) (fun hS1 => ?_)
          clear hK K
          try simp only [Act.put, List.setIfInBounds_toArray, List.set_cons_zero, List.set_cons_succ]
          refine wpAnyH_ready (rs := [3]) (by kernel_rfl) (by simp) ?_
          refine AllReadyH.cons (o := ⟨some 74, _, _, _, _, _⟩) rfl (fun K hK => ?_) AllReadyH.nil
          go_simp
          refine (HM2.out _).mono ?_
          rintro e wb ⟨rfl, rfl⟩
          go_wp2_with fail
          refine hK.out _ _ (trivial) (fun hS2 => ?_)
          clear hK K
          try simp only [Act.put, List.setIfInBounds_toArray, List.set_cons_zero, List.set_cons_succ]
          refine wpAnyH_take (i := 4) (oi := ⟨some 75, _, _, _, _, _⟩) (v := ?_) rfl (by kernel_rfl) (by kernel_rfl) (by kernel_rfl) (fun _ _ _ h => h) (Or.inl ⟨by rfl, ?_⟩) hS2 ?_
          rotate_left
          · (intro wq hSw; (try dsimp only at hSw); go_simp; all_goals (with_reducible rfl))
          try simp only [Act.put, List.setIfInBounds_toArray, List.set_cons_zero, List.set_cons_succ]
          refine wpAnyH_take (i := 5) (oi := ⟨some 76, _, _, _, _, _⟩) (v := ?_) rfl (by kernel_rfl) (by kernel_rfl) (by kernel_rfl) (fun _ _ _ h => h) (Or.inl ⟨by rfl, ?_⟩) hS2 ?_
          rotate_left
          · (intro wq hSw; (try dsimp only at hSw); go_simp; all_goals (with_reducible rfl))
          try simp only [Act.put, List.setIfInBounds_toArray, List.set_cons_zero, List.set_cons_succ]
          refine wpAnyH_ready (rs := [6]) (by kernel_rfl) (by simp) ?_
          refine AllReadyH.cons (o := ⟨some 77, _, _, _, _, _⟩) rfl (fun K hK => ?_) AllReadyH.nil
          go_simp
          refine hK.out _ _ (trivial) (fun hS3 => ?_)
          clear hK K
          try simp only [Act.put, List.setIfInBounds_toArray, List.set_cons_zero, List.set_cons_succ]
          refine wpAnyH_ready (rs := [7]) (by kernel_rfl) (by simp) ?_
          refine AllReadyH.cons (o := ⟨some 78, _, _, _, _, _⟩) rfl (fun K hK => ?_) AllReadyH.nil
          refine Kd.step_push (o := ⟨some 78, _, _, _, _, _⟩) (W := w5.drew) (F := Pm.PF w5.drew B m) (B := B) (n := m.parts.n) (v := .slice m.parts.A m.parts.n m.parts.c) (xs := q.parts) (y := ⟨⟨[], []⟩, z⟩) (cs := [.slice none 0 0, .slice none 0 0, .int .i64 z]) Ap.prt_t rfl (.tmp 72) (.tmp 77) rfl rfl rfl rfl HBd.out.lists.parts hrep.out (by omega) (by omega) hBsz (fun x hx => ⟨hx.1, hx.2.2.1⟩) ?_
          intro g1 cap w9 hown hgrow hfr
          have HE := Lib.hid (HBd.out.pushPart (z := z) hown hgrow hfr hpn.out hzz.out)
          have e9 := HE.out.1.cell 13
          have f9 := HE.out.1.frozen 13
          refine hK.out _ _ (trivial) (fun hS4 => ?_)
          clear hK K
          try simp only [Act.put, List.setIfInBounds_toArray, List.set_cons_zero, List.set_cons_succ]
          refine wpAnyH_take (i := 8) (oi := ⟨some 79, _, _, _, _, _⟩) (v := ?_) rfl (by kernel_rfl) (by kernel_rfl) (by kernel_rfl) (fun _ _ _ h => h) (Or.inl ⟨by rfl, ?_⟩) hS4 ?_
          rotate_left
          · (intro wq hSw; (try dsimp only at hSw); go_simp; all_goals (with_reducible rfl))
          try simp only [Act.put, List.setIfInBounds_toArray, List.set_cons_zero, List.set_cons_succ]
          refine wpAnyH_ready (rs := [9]) (by kernel_rfl) (by simp) ?_
          refine AllReadyH.cons (o := ⟨none, _, _, _, _, _⟩) rfl (fun K hK => ?_) AllReadyH.nil
          go_simp
          refine hK.out _ _ (trivial) (fun hS5 => ?_)
          clear hK K
          try simp only [Act.put, List.setIfInBounds_toArray, List.set_cons_zero, List.set_cons_succ]
          refine wpAnyH_done (by kernel_rfl) ?_ _
          go_wp2_with fail
          go_meet
          exact Lib.hid ⟨_, _, _, HE.out.2⟩
        refine AllReadyH.cons (o := ⟨some 74, _, _, _, _, _⟩) rfl (fun K hK => ?_) AllReadyH.nil
        go_simp
        refine (HM2.out _).mono ?_
        rintro e wb ⟨rfl, rfl⟩
        go_wp2_with fail
        refine hK.out _ _ (trivial) (fun hS1 => ?_)
        clear hK K
        try simp only [Act.put, List.setIfInBounds_toArray, List.set_cons_zero, List.set_cons_succ]
        refine wpAnyH_take (i := 4) (oi := ⟨some 75, _, _, _, _, _⟩) (v := ?_) rfl (by kernel_rfl) (by kernel_rfl) (by kernel_rfl) (fun _ _ _ h => h) (Or.inl ⟨by rfl, ?_⟩) hS1 ?_
        rotate_left
        · (intro wq hSw; (try dsimp only at hSw); go_simp; all_goals (with_reducible rfl))
        try simp only [Act.put, List.setIfInBounds_toArray, List.set_cons_zero, List.set_cons_succ]
        refine wpAnyH_take (i := 5) (oi := ⟨some 76, _, _, _, _, _⟩) (v := ?_) rfl (by kernel_rfl) (by kernel_rfl) (by kernel_rfl) (fun _ _ _ h => h) (Or.inl ⟨by rfl, ?_⟩) hS1 ?_
        rotate_left
        · (intro wq hSw; (try dsimp only at hSw); go_simp; all_goals (with_reducible rfl))
        try simp only [Act.put, List.setIfInBounds_toArray, List.set_cons_zero, List.set_cons_succ]
        refine wpAnyH_ready (rs := [1, 6]) (by kernel_rfl) (by simp) ?_
        refine AllReadyH.cons (o := ⟨some 72, _, _, _, _, _⟩) rfl (fun K hK => ?_) ?_
        ·
          go_simp
          refine hK.out _ _ (hS1) (fun hS2 => ?_)
          clear hK K
          try simp only [Act.put, List.setIfInBounds_toArray, List.set_cons_zero, List.set_cons_succ]
          refine wpAnyH_ready (rs := [6]) (by kernel_rfl) (by simp) ?_
          refine AllReadyH.cons (o := ⟨some 77, _, _, _, _, _⟩) rfl (fun K hK => ?_) AllReadyH.nil
          go_simp
          refine hK.out _ _ (trivial) (fun hS3 => ?_)
          clear hK K
          try simp only [Act.put, List.setIfInBounds_toArray, List.set_cons_zero, List.set_cons_succ]
          refine wpAnyH_ready (rs := [7]) (by kernel_rfl) (by simp) ?_
          refine AllReadyH.cons (o := ⟨some 78, _, _, _, _, _⟩) rfl (fun K hK => ?_) AllReadyH.nil
          refine Kd.step_push (o := ⟨some 78, _, _, _, _, _⟩) (W := w5.drew) (F := Pm.PF w5.drew B m) (B := B) (n := m.parts.n) (v := .slice m.parts.A m.parts.n m.parts.c) (xs := q.parts) (y := ⟨⟨[], []⟩, z⟩) (cs := [.slice none 0 0, .slice none 0 0, .int .i64 z]) Ap.prt_t rfl (.tmp 72) (.tmp 77) rfl rfl rfl rfl HBd.out.lists.parts hrep.out (by omega) (by omega) hBsz (fun x hx => ⟨hx.1, hx.2.2.1⟩) ?_
          intro g1 cap w9 hown hgrow hfr
          have HE := Lib.hid (HBd.out.pushPart (z := z) hown hgrow hfr hpn.out hzz.out)
          have e9 := HE.out.1.cell 13
          have f9 := HE.out.1.frozen 13
          refine hK.out _ _ (trivial) (fun hS4 => ?_)
          clear hK K
          try simp only [Act.put, List.setIfInBounds_toArray, List.set_cons_zero, List.set_cons_succ]
          refine wpAnyH_take (i := 8) (oi := ⟨some 79, _, _, _, _, _⟩) (v := ?_) rfl (by kernel_rfl) (by kernel_rfl) (by kernel_rfl) (fun _ _ _ h => h) (Or.inl ⟨by rfl, ?_⟩) hS4 ?_
          rotate_left
          · (intro wq hSw; (try dsimp only at hSw); go_simp; all_goals (with_reducible rfl))
          try simp only [Act.put, List.setIfInBounds_toArray, List.set_cons_zero, List.set_cons_succ]
          refine wpAnyH_ready (rs := [9]) (by kernel_rfl) (by simp) ?_
          refine AllReadyH.cons (o := ⟨none, _, _, _, _, _⟩) rfl (fun K hK => ?_) AllReadyH.nil
          go_simp
          refine hK.out _ _ (trivial) (fun hS5 => ?_)
          clear hK K
          try simp only [Act.put, List.setIfInBounds_toArray, List.set_cons_zero, List.set_cons_succ]
          refine wpAnyH_done (by kernel_rfl) ?_ _
          go_wp2_with fail
          go_meet
          exact Lib.hid ⟨_, _, _, HE.out.2⟩
        refine AllReadyH.cons (o := ⟨some 77, _, _, _, _, _⟩) rfl (fun K hK => ?_) AllReadyH.nil
        go_simp
        refine hK.out _ _ (trivial) (fun hS2 => ?_)
        clear hK K
        try simp only [Act.put, List.setIfInBounds_toArray, List.set_cons_zero, List.set_cons_succ]
        refine wpAnyH_ready (rs := [1]) (by kernel_rfl) (by simp) ?_
        refine AllReadyH.cons (o := ⟨some 72, _, _, _, _, _⟩) rfl (fun K hK => ?_) AllReadyH.nil
        go_simp
        refine hK.out _ _ (hS2) (fun hS3 => ?_)
        clear hK K
        try simp only [Act.put, List.setIfInBounds_toArray, List.set_cons_zero, List.set_cons_succ]
        refine wpAnyH_ready (rs := [7]) (by kernel_rfl) (by simp) ?_
        refine AllReadyH.cons (o := ⟨some 78, _, _, _, _, _⟩) rfl (fun K hK => ?_) AllReadyH.nil
        refine Kd.step_push (o := ⟨some 78, _, _, _, _, _⟩) (W := w5.drew) (F := Pm.PF w5.drew B m) (B := B) (n := m.parts.n) (v := .slice m.parts.A m.parts.n m.parts.c) (xs := q.parts) (y := ⟨⟨[], []⟩, z⟩) (cs := [.slice none 0 0, .slice none 0 0, .int .i64 z]) Ap.prt_t rfl (.tmp 72) (.tmp 77) rfl rfl rfl rfl HBd.out.lists.parts hrep.out (by omega) (by omega) hBsz (fun x hx => ⟨hx.1, hx.2.2.1⟩) ?_
        intro g1 cap w9 hown hgrow hfr
        have HE := Lib.hid (HBd.out.pushPart (z := z) hown hgrow hfr hpn.out hzz.out)
        have e9 := HE.out.1.cell 13
        have f9 := HE.out.1.frozen 13
        refine hK.out _ _ (trivial) (fun hS4 => ?_)
        clear hK K
        try simp only [Act.put, List.setIfInBounds_toArray, List.set_cons_zero, List.set_cons_succ]
        refine wpAnyH_take (i := 8) (oi := ⟨some 79, _, _, _, _, _⟩) (v := ?_) rfl (by kernel_rfl) (by kernel_rfl) (by kernel_rfl) (fun _ _ _ h => h) (Or.inl ⟨by rfl, ?_⟩) hS4 ?_
        rotate_left
        · (intro wq hSw; (try dsimp only at hSw); go_simp; all_goals (with_reducible rfl))
        try simp only [Act.put, List.setIfInBounds_toArray, List.set_cons_zero, List.set_cons_succ]
        refine wpAnyH_ready (rs := [9]) (by kernel_rfl) (by simp) ?_
        refine AllReadyH.cons (o := ⟨none, _, _, _, _, _⟩) rfl (fun K hK => ?_) AllReadyH.nil
        go_simp
        refine hK.out _ _ (trivial) (fun hS5 => ?_)
        clear hK K
        try simp only [Act.put, List.setIfInBounds_toArray, List.set_cons_zero, List.set_cons_succ]
        refine wpAnyH_done (by kernel_rfl) ?_ _
        go_wp2_with fail
        go_meet
        exact Lib.hid ⟨_, _, _, HE.out.2⟩
      · have hpl : q.tiers.length = m.tiers.n := HQ.out.lists.tiers.1
        have hpn : Hid (q.tiers.length ≤ 6) := Lib.hid HF.out.2.2.1
        have hpm : m.tiers.n ≤ 6 := by have := hpn.out; omega
        have hBsz : B ≤ w5.heap.size := HQ.out.sz
        have hrep : Hid (Ap.kTir.rep w5 (fun _ => False) ⟨a2, 100, 0⟩ [.int .i64 a2, .int .i64 100, .int .i64 0]) := Lib.hid (Ap.Tir_rep.2 ⟨rfl, ⟨Hn2.out, by show _ ≤ (100 : Int) ∧ (100 : Int) ≤ _; omega, by show _ ≤ (0 : Int) ∧ (0 : Int) ≤ _; omega⟩⟩)
        have HLs := Lib.hid HQ.out.lists
        clear hpl
        go_wp2_with ((at_builtin; refine Kd.wpList_push (W := w5) (F := fun _ => False) (B := B) (n := m.tiers.n) (v := .slice m.tiers.A m.tiers.n m.tiers.c) (xs := q.tiers) (y := ⟨a2, 100, 0⟩) (cs := [.int .i64 a2, .int .i64 100, .int .i64 0]) Ap.tir_t rfl _ _ rfl rfl rfl rfl HLs.out.tiers hrep.out (by omega) (by omega) hBsz (fun _ h => h.elim) ?_; intro g1 cap w9 hown hgrow hfr; have HE := Lib.hid (HQ.out.pushTier hown hgrow hfr hpn.out); have y14 := HE.out.1.cell 14; have yf := HE.out.1.frozen 14))
        go_meet
        exact Lib.hid ⟨_, _, _, HE.out.2⟩
      · go_wp2_with fail
        go_meet
        exact Lib.hid ⟨_, { q with closes := !q.closes }, m, HQ.out.stored HQ.out.sz HQ.out.below HQ.out.lists (HQ.out.blk.put 5 _) HQ.out.nums ⟨HQ.out.slight.skus, HQ.out.slight.cats, HQ.out.slight.each, HQ.out.slight.parts, HQ.out.slight.tiers⟩⟩
      · have hpl : q.scope.skus.length = m.scope.skus.n := HQ.out.lists.skus.1
        have hpn : Hid (q.scope.skus.length ≤ 8) := Lib.hid HF.out.1
        have hpm : m.scope.skus.n ≤ 8 := by have := hpn.out; omega
        have hBsz : B ≤ w5.heap.size := HQ.out.sz
        have hrep : Hid (kStr.rep w5 (fun _ => False) s [.string s]) := Lib.hid ⟨rfl, Hs.out⟩
        have HLs := Lib.hid HQ.out.lists
        clear hpl
        go_wp2_with ((at_builtin; refine Kd.wpList_push (W := w5) (F := fun _ => False) (B := B) (n := m.scope.skus.n) (v := .slice m.scope.skus.A m.scope.skus.n m.scope.skus.c) (xs := q.scope.skus) (y := s) (cs := [.string s]) Ap.str_t rfl _ _ rfl rfl rfl rfl HLs.out.skus hrep.out (by omega) (by omega) hBsz (fun _ h => h.elim) ?_; intro g1 cap w9 hown hgrow hfr; have HE := Lib.hid (HQ.out.pushSku hown hgrow hfr hpn.out); have y6 := HE.out.1.cell 6; have yf := HE.out.1.frozen 6))
        go_meet
        exact Lib.hid ⟨_, _, _, HE.out.2⟩
      · go_wp2_with fail
        go_meet
        exact Lib.hid ⟨_, { q with tiers := [] }, ⟨m.scope, m.parts, ⟨none, 0, 0⟩⟩, HQ.out.stored HQ.out.sz HQ.out.below HQ.out.lists.noTiers (HQ.out.blk.put 14 _) HQ.out.nums ⟨HQ.out.slight.skus, HQ.out.slight.cats, HQ.out.slight.each, HQ.out.slight.parts, by show (0 : Nat) ≤ _; omega⟩⟩
      · go_wp2_with fail
        go_meet
        exact Lib.hid ⟨_, { q with parts := [] }, ⟨m.scope, ⟨none, 0, 0⟩, m.tiers⟩, HQ.out.stored HQ.out.sz HQ.out.below HQ.out.lists.noParts (HQ.out.blk.put 13 _) HQ.out.nums ⟨HQ.out.slight.skus, HQ.out.slight.cats, fun k x hx => by simp at hx, by show (0 : Nat) ≤ _; omega, HQ.out.slight.tiers⟩⟩
    case rest =>
      obtain ⟨B2, q2, m2, hB2⟩ := hcut.out
      have HB2 := Lib.hid hB2
      clear hcut hB2 HQ
      obtain ⟨r, hr⟩ : ∃ r, Pr.promoB q2 = r := ⟨_, rfl⟩
      have e1 : (r == r) = true := by cases r <;> rfl
      have HA : Hid (∀ u, Below wc.heap.size wc u → Calls Try.prog 9 #[] u fun e w' => e = .returned (.bool true) ∧ Below wc.heap.size wc w') := Lib.hid fun u hu => (Pm.awake_any u).mono fun e w' he => ⟨he.1, Hk.andThen hu he.2⟩
      have HR : Hid (∀ u, Below wc.heap.size wc u → Calls Try.prog 11 #[.agg #[.string q2.id, .int .i64 q2.kind, .int .i64 q2.priority, .string q2.group, .string q2.code, .bool q2.closes, .slice m2.scope.skus.A m2.scope.skus.n m2.scope.skus.c, .slice m2.scope.cats.A m2.scope.cats.n m2.scope.cats.c, .int .i64 q2.least, .int .i64 q2.rate, .int .i64 q2.amount, .int .i64 q2.buy, .int .i64 q2.get, .slice m2.parts.A m2.parts.n m2.parts.c, .slice m2.tiers.A m2.tiers.n m2.tiers.c]] u fun e w' => e = .returned (.bool r) ∧ Below wc.heap.size wc w') := Lib.hid fun u hu => (HB2.out.later hu).right.mono fun e w' he => ⟨by rw [he.1, hr], Hk.andThen hu he.2⟩
      have HRR : Hid (∀ u, Below wc.heap.size wc u → Calls Try.prog 12 #[.agg #[.string q2.id, .int .i64 q2.kind, .int .i64 q2.priority, .string q2.group, .string q2.code, .bool q2.closes, .slice m2.scope.skus.A m2.scope.skus.n m2.scope.skus.c, .slice m2.scope.cats.A m2.scope.cats.n m2.scope.cats.c, .int .i64 q2.least, .int .i64 q2.rate, .int .i64 q2.amount, .int .i64 q2.buy, .int .i64 q2.get, .slice m2.parts.A m2.parts.n m2.parts.c, .slice m2.tiers.A m2.tiers.n m2.tiers.c]] u fun e w' => e = .returned (.bool r) ∧ Below wc.heap.size wc w') := Lib.hid fun u hu => (HB2.out.later hu).rright.mono fun e w' he => ⟨by rw [he.1, hr], Hk.andThen hu he.2⟩
      clear hr
      have f0 : ∀ u, Below wc.heap.size wc u → u.cell? ⟨w.heap.size, 0, none⟩ = some (.string q2.id) := fun u hu => (HB2.out.later hu).blk.cell 0
      have f1 : ∀ u, Below wc.heap.size wc u → u.cell? ⟨w.heap.size, 1, none⟩ = some (.int .i64 q2.kind) := fun u hu => (HB2.out.later hu).blk.cell 1
      have f2 : ∀ u, Below wc.heap.size wc u → u.cell? ⟨w.heap.size, 2, none⟩ = some (.int .i64 q2.priority) := fun u hu => (HB2.out.later hu).blk.cell 2
      have f3 : ∀ u, Below wc.heap.size wc u → u.cell? ⟨w.heap.size, 3, none⟩ = some (.string q2.group) := fun u hu => (HB2.out.later hu).blk.cell 3
      have f4 : ∀ u, Below wc.heap.size wc u → u.cell? ⟨w.heap.size, 4, none⟩ = some (.string q2.code) := fun u hu => (HB2.out.later hu).blk.cell 4
      have f5 : ∀ u, Below wc.heap.size wc u → u.cell? ⟨w.heap.size, 5, none⟩ = some (.bool q2.closes) := fun u hu => (HB2.out.later hu).blk.cell 5
      have f6 : ∀ u, Below wc.heap.size wc u → u.cell? ⟨w.heap.size, 6, none⟩ = some (.slice m2.scope.skus.A m2.scope.skus.n m2.scope.skus.c) := fun u hu => (HB2.out.later hu).blk.cell 6
      have f7 : ∀ u, Below wc.heap.size wc u → u.cell? ⟨w.heap.size, 7, none⟩ = some (.slice m2.scope.cats.A m2.scope.cats.n m2.scope.cats.c) := fun u hu => (HB2.out.later hu).blk.cell 7
      have f8 : ∀ u, Below wc.heap.size wc u → u.cell? ⟨w.heap.size, 8, none⟩ = some (.int .i64 q2.least) := fun u hu => (HB2.out.later hu).blk.cell 8
      have f9 : ∀ u, Below wc.heap.size wc u → u.cell? ⟨w.heap.size, 9, none⟩ = some (.int .i64 q2.rate) := fun u hu => (HB2.out.later hu).blk.cell 9
      have f10 : ∀ u, Below wc.heap.size wc u → u.cell? ⟨w.heap.size, 10, none⟩ = some (.int .i64 q2.amount) := fun u hu => (HB2.out.later hu).blk.cell 10
      have f11 : ∀ u, Below wc.heap.size wc u → u.cell? ⟨w.heap.size, 11, none⟩ = some (.int .i64 q2.buy) := fun u hu => (HB2.out.later hu).blk.cell 11
      have f12 : ∀ u, Below wc.heap.size wc u → u.cell? ⟨w.heap.size, 12, none⟩ = some (.int .i64 q2.get) := fun u hu => (HB2.out.later hu).blk.cell 12
      have f13 : ∀ u, Below wc.heap.size wc u → u.cell? ⟨w.heap.size, 13, none⟩ = some (.slice m2.parts.A m2.parts.n m2.parts.c) := fun u hu => (HB2.out.later hu).blk.cell 13
      have f14 : ∀ u, Below wc.heap.size wc u → u.cell? ⟨w.heap.size, 14, none⟩ = some (.slice m2.tiers.A m2.tiers.n m2.tiers.c) := fun u hu => (HB2.out.later hu).blk.cell 14
      go_wp2_with fail
      go_region_held3 (fun u => Below wc.heap.size wc u)
        (first
          | assumption
          | exact (Below.refl _ _).drew
          | exact Below.refl _ _)
        (first
          | (go_at_call 9; with_reducible refine (HA.out _ (by first | assumption | exact (Below.refl _ _).drew)).mono ?_; rintro e wa ⟨rfl, ha⟩)
          | (go_at_call 11; with_reducible refine (HR.out _ (by first | assumption | exact (Below.refl _ _).drew)).mono ?_; rintro e wd ⟨rfl, hd⟩)
          | (go_at_call 12; with_reducible refine (HRR.out _ (by first | assumption | exact (Below.refl _ _).drew)).mono ?_; rintro e we ⟨rfl, he⟩))
      have HE := Lib.hid (HB2.out.later he).below
      clear he hd ha HA HR HRR f0 f1 f2 f3 f4 f5 f6 f7 f8 f9 f10 f11 f12 f13 f14
      go_wp2
      go_ret
      exact ⟨rfl, HE.out⟩

set_option maxRecDepth 100000 in
theorem lifted (os : Os) (started : os.Started) (H : Type) (enc : TypeId × Value → H) :
    ReturnsInHanded {} Try.checked os 4 .any (Rows.promoTurnedSpec.pre6 enc Try.prog Try.f4 Rows.promoTurnedRow.domain false) (Rows.promoTurnedSpec.post enc Try.prog Try.f4 false true false false) := by
  refine returnsInHanded_of_change (C := Try.checked) own started (by kernel_rfl) Try.func4
    (ChangeSpec.witness6 (enc := enc) (C := Try.checked) false ⟨#[], #[.agg #[.string ⟨#[]⟩, .int .i64 0, .int .i64 0, .string ⟨#[]⟩, .string ⟨#[]⟩, .bool false, .slice none 0 0, .slice none 0 0, .int .i64 0, .int .i64 0, .int .i64 0, .int .i64 0, .int .i64 0, .slice none 0 0, .slice none 0 0], .int .i64 0, .int .i64 0, .string ⟨#[]⟩], []⟩ 8 (by kernel_rfl) (by kernel_rfl) (by kernel_rfl) (by kernel_rfl)) ?_
  intro W base args ds gs before hval0 hW hcnd _
  have hval : ∀ (j : Nat) t v, Try.f4.params[j]? = some t → args[j]? = some v → Value.okWide Try.prog W .any base t v := hval0
  have hW' := hW
  obtain ⟨p, q, hA0, hV, rfl, hfz, hnd⟩ := hW
  have hA : DataW.TrodAll enc Try.prog W 0 (fun _ => true) true Try.f4.params.toList args.toList ds p := hA0
  rw [Try.params4] at hA hval
  obtain ⟨v0, vs0, d0, ds0, p0, q0, hargs, rfl, rfl, h0, r0⟩ := trodAll_cons hA
  obtain ⟨v1, vs1, d1, ds1, p1, q1, rfl, rfl, rfl, h1, r1⟩ := trodAll_cons r0
  obtain ⟨v2, vs2, d2, ds2, p2, q2, rfl, rfl, rfl, h2, r2⟩ := trodAll_cons r1
  obtain ⟨v3, vs3, d3, ds3, p3, q3, rfl, rfl, rfl, h3, r3⟩ := trodAll_cons r2
  obtain ⟨rfl, rfl, rfl⟩ := trodAll_nil r3
  obtain rfl : args = #[v0, v1, v2, v3] := by cases args; simp_all
  obtain ⟨cs0, p0, rfl, r0⟩ := Kd.open_struct Ap.reads_Prm Try.underlying28 (hval 0 28 v0 rfl rfl) h0; obtain ⟨l0, rfl, x0⟩ := Ap.Prm_rep.1 r0
  obtain ⟨a1, rfl, _, _, w1⟩ := open_int Try.underlying3 (hval 1 3 v1 rfl rfl) h1
  obtain ⟨a2, rfl, _, _, w2⟩ := open_int Try.underlying2 (hval 2 2 v2 rfl rfl) h2
  obtain ⟨s3, rfl, _, _, u3⟩ := Go.ChangeMaps.open_string Try.underlying9 (hval 3 9 v3 rfl rfl) h3
  refine (walk W p0 l0 x0 a1 w1 a2 w2 s3 u3).mono fun e W' ⟨he, hb⟩ => ?_
  subst he
  exact ⟨_, rfl, Hk.closeLaw (tb := 4) (by kernel_rfl) (by kernel_rfl) rfl rfl rfl Try.underlying4 hW' hb⟩

theorem over : Rows.promoTurnedRow.holds Try.pinned (OpenSpec.ofChange Rows.promoTurnedSpec) :=
  OpenClaim.holds_of_wide 4 Try.f4 rfl rfl rfl rfl rfl rfl rfl ⟨rfl, rfl, rfl, rfl, rfl⟩ rfl rfl rfl rfl rfl (by kernel_rfl) Try.func4 (by kernel_rfl)
    (of_decide_eq_true (by kernel_rfl)) (by unfold Func.isWrapper; first | (rw [if_pos (by decide +kernel)]; kernel_rfl) | (rw [if_neg (by decide +kernel)]; exact ⟨rfl, rfl⟩))
    (fun os started H enc _ => lifted os started H enc)

/-- The statement. -/
theorem proved : Rows.PromoTurnedSaid :=
  over
end Go.Proofs.Ytgimcleeamlgcaa.promoTurned
