/- Law 12's awake, whole. -/
import Derived.Test.YtgimcleeamlgcaaPmX
set_option maxRecDepth 100000

set_option linter.unusedVariables false
namespace Go.Proofs.Ytgimcleeamlgcaa.Pm
open Go.ChangeShapes Go.WideShapes Go.ChangeAt Go.RowKit
open Ap (Scp Prt Tir Prm kPrm)
open Kd (Row Lst kStr kInt)

set_option maxRecDepth 100000 in
set_option maxHeartbeats 4000000 in
theorem awake_any (w : World) : Calls Try.prog 9 #[] w fun e w' => e = .returned (.bool true) ∧ Below w.heap.size w w' := by
  obtain ⟨w2, hw2⟩ : ∃ w2, (w.alloc (.cells #[.string ⟨#[98]⟩, .int .i64 1, .int .i64 5, .string ⟨#[]⟩, .string ⟨#[]⟩, .bool false, .slice none 0 0, .slice none 0 0, .int .i64 0, .int .i64 100, .int .i64 0, .int .i64 0, .int .i64 0, .slice none 0 0, .slice none 0 0] 28)).alloc (.cells #[.string ⟨#[97]⟩, .int .i64 1, .int .i64 5, .string ⟨#[]⟩, .string ⟨#[]⟩, .bool false, .slice none 0 0, .slice none 0 0, .int .i64 0, .int .i64 100, .int .i64 0, .int .i64 0, .int .i64 0, .slice none 0 0, .slice none 0 0] 28) = w2 := ⟨_, rfl⟩
  have hs : (w.alloc (.cells #[.string ⟨#[98]⟩, .int .i64 1, .int .i64 5, .string ⟨#[]⟩, .string ⟨#[]⟩, .bool false, .slice none 0 0, .slice none 0 0, .int .i64 0, .int .i64 100, .int .i64 0, .int .i64 0, .int .i64 0, .slice none 0 0, .slice none 0 0] 28)).heap.size = w.heap.size + 1 := by simp
  have hb2 : Below w.heap.size w w2 := by rw [← hw2]; exact ((Below.refl _ _).alloc (Nat.le_refl _) _).alloc (by simp) _
  have h1 : Qu.Blk w2 w.heap.size 28 #[.string ⟨#[98]⟩, .int .i64 1, .int .i64 5, .string ⟨#[]⟩, .string ⟨#[]⟩, .bool false, .slice none 0 0, .slice none 0 0, .int .i64 0, .int .i64 100, .int .i64 0, .int .i64 0, .int .i64 0, .slice none 0 0, .slice none 0 0] := by rw [← hw2]; exact (Qu.Blk.new w _ _).alloc _
  have h2 : Qu.Blk w2 (w.heap.size + 1) 28 #[.string ⟨#[97]⟩, .int .i64 1, .int .i64 5, .string ⟨#[]⟩, .string ⟨#[]⟩, .bool false, .slice none 0 0, .slice none 0 0, .int .i64 0, .int .i64 100, .int .i64 0, .int .i64 0, .int .i64 0, .slice none 0 0, .slice none 0 0] := by
    have h := Qu.Blk.new (w.alloc (.cells #[.string ⟨#[98]⟩, .int .i64 1, .int .i64 5, .string ⟨#[]⟩, .string ⟨#[]⟩, .bool false, .slice none 0 0, .slice none 0 0, .int .i64 0, .int .i64 100, .int .i64 0, .int .i64 0, .int .i64 0, .slice none 0 0, .slice none 0 0] 28)) 28 #[.string ⟨#[97]⟩, .int .i64 1, .int .i64 5, .string ⟨#[]⟩, .string ⟨#[]⟩, .bool false, .slice none 0 0, .slice none 0 0, .int .i64 0, .int .i64 100, .int .i64 0, .int .i64 0, .int .i64 0, .slice none 0 0, .slice none 0 0]
    rw [hw2, hs] at h
    exact h
  have HH := Lib.hid (And.intro h1 (And.intro h2 hb2))
  have HR := Lib.hid (right_b w2)
  have HZ := Lib.hid right_zero
  have HA := Lib.hid all_two
  have HO := Lib.hid order_two
  have HC := Lib.hid codes_one
  have HP := Lib.hid plain_ten
  have x0 := h1.cell 0
  have y0 := h2.cell 0
  have x1 := h1.cell 1
  have y1 := h2.cell 1
  have x2 := h1.cell 2
  have y2 := h2.cell 2
  have x3 := h1.cell 3
  have y3 := h2.cell 3
  have x4 := h1.cell 4
  have y4 := h2.cell 4
  have x5 := h1.cell 5
  have y5 := h2.cell 5
  have x6 := h1.cell 6
  have y6 := h2.cell 6
  have x7 := h1.cell 7
  have y7 := h2.cell 7
  have x8 := h1.cell 8
  have y8 := h2.cell 8
  have x9 := h1.cell 9
  have y9 := h2.cell 9
  have x10 := h1.cell 10
  have y10 := h2.cell 10
  have x11 := h1.cell 11
  have y11 := h2.cell 11
  have x12 := h1.cell 12
  have y12 := h2.cell 12
  have x13 := h1.cell 13
  have y13 := h2.cell 13
  have x14 := h1.cell 14
  have y14 := h2.cell 14
  clear h1 h2 hb2 hs
  go_enter Try.func9, Try.ntmps9
  go_wp2_with fail
  refine HR.out.mono ?_
  rintro e w3 ⟨rfl, hb3⟩
  have HB3 := Lib.hid hb3
  clear x0 y0 x1 y1 x2 y2 x3 y3 x4 y4 x5 y5 x6 y6 x7 y7 x8 y8 x9 y9 x10 y10 x11 y11 x12 y12 x13 y13 x14 y14
  go_wp2_with fail
  refine (HZ.out _).mono ?_
  rintro e w4 ⟨rfl, hb4⟩
  have hb24 := Hk.andThen HB3.out hb4
  have hx4 := HH.out.1.below hb24
  have hy4 := HH.out.2.1.below hb24
  have HB4 := Lib.hid hb24
  have v0 := hx4.cell 0
  have z0 := hy4.cell 0
  have v1 := hx4.cell 1
  have z1 := hy4.cell 1
  have v2 := hx4.cell 2
  have z2 := hy4.cell 2
  have v3 := hx4.cell 3
  have z3 := hy4.cell 3
  have v4 := hx4.cell 4
  have z4 := hy4.cell 4
  have v5 := hx4.cell 5
  have z5 := hy4.cell 5
  have v6 := hx4.cell 6
  have z6 := hy4.cell 6
  have v7 := hx4.cell 7
  have z7 := hy4.cell 7
  have v8 := hx4.cell 8
  have z8 := hy4.cell 8
  have v9 := hx4.cell 9
  have z9 := hy4.cell 9
  have v10 := hx4.cell 10
  have z10 := hy4.cell 10
  have v11 := hx4.cell 11
  have z11 := hy4.cell 11
  have v12 := hx4.cell 12
  have z12 := hy4.cell 12
  have v13 := hx4.cell 13
  have z13 := hy4.cell 13
  have v14 := hx4.cell 14
  have z14 := hy4.cell 14
  clear hb4 hb24 hx4 hy4 hb3 hw2
  go_wp2_with fail
  refine (HA.out _).mono ?_
  rintro e w6 ⟨rfl, hb6⟩
  have hb26 := Hk.andThen HB4.out hb6
  have hx6 := HH.out.1.below hb26
  have hy6 := HH.out.2.1.below hb26
  have HB6 := Lib.hid hb26
  have s0 := hx6.cell 0
  have t0 := hy6.cell 0
  have s1 := hx6.cell 1
  have t1 := hy6.cell 1
  have s2 := hx6.cell 2
  have t2 := hy6.cell 2
  have s3 := hx6.cell 3
  have t3 := hy6.cell 3
  have s4 := hx6.cell 4
  have t4 := hy6.cell 4
  have s5 := hx6.cell 5
  have t5 := hy6.cell 5
  have s6 := hx6.cell 6
  have t6 := hy6.cell 6
  have s7 := hx6.cell 7
  have t7 := hy6.cell 7
  have s8 := hx6.cell 8
  have t8 := hy6.cell 8
  have s9 := hx6.cell 9
  have t9 := hy6.cell 9
  have s10 := hx6.cell 10
  have t10 := hy6.cell 10
  have s11 := hx6.cell 11
  have t11 := hy6.cell 11
  have s12 := hx6.cell 12
  have t12 := hy6.cell 12
  have s13 := hx6.cell 13
  have t13 := hy6.cell 13
  have s14 := hx6.cell 14
  have t14 := hy6.cell 14
  clear hb6 hb26 hx6 hy6 v0 z0 v1 z1 v2 z2 v3 z3 v4 z4 v5 z5 v6 z6 v7 z7 v8 z8 v9 z9 v10 z10 v11 z11 v12 z12 v13 z13 v14 z14
  go_wp2_with fail
  refine (HO.out _).mono ?_
  rintro e w8 ⟨A8, c8, rfl, hr8, hb8⟩
  have HB8 := Lib.hid (Hk.andThen HB6.out hb8)
  have HR8 := Lib.hid hr8
  clear hb8 hr8 s0 t0 s1 t1 s2 t2 s3 t3 s4 t4 s5 t5 s6 t6 s7 t7 s8 t8 s9 t9 s10 t10 s11 t11 s12 t12 s13 t13 s14 t14
  go_wp2_with fail
  refine (HP.out _ _ _ HR8.out).mono ?_
  rintro e w10 ⟨rfl, hb10⟩
  have HB10 := Lib.hid (Hk.andThen HB8.out hb10)
  clear hb10
  go_wp2_with fail
  refine (HC.out _).mono ?_
  rintro e w12 ⟨rfl, rfl⟩
  have HB12 := Lib.hid (HH.out.2.2.trans (HB10.out.mono HH.out.2.2.size))
  go_wp2
  go_ret
  exact ⟨rfl, HB12.out.alloc HB12.out.size _⟩

end Go.Proofs.Ytgimcleeamlgcaa.Pm
