/- P5.1: of three rows of as many bytes, up to five hundred, and what they are together by exclusive or: so are their sums; for every three slices of bytes. No conditions. -/
import Derived.Test.YtipjcmkfgfcoiaaCrL
import Derived.Test.YtipjcmkfgfcoiaaByB
import Derived.Test.YtipjcmkfgfcoiaaKitC
import Derived.RegionTactic
import Derived.Deep.RegionHeld3
namespace Go.Proofs.Ytipjcmkfgfcoiaa.crcThree
open Go.ChangeShapes Go.WideShapes Go.ChangeAt Go.RowKit
set_option linter.unusedVariables false

theorem own : ownKnob Try.prog.godebug = none := by kernel_rfl

/-- The row while it is filled: the first i are right. -/
structure Filling (w wr : World) (g n i : Nat) (a b c : List UInt8) : Prop where
  ex : ∃ X : List UInt8, wr.ownsRow w.heap.size 5 1 (.slice (some ⟨g, 0, none⟩) n n) n (By.cellsB X) ∧ ∀ j, j < i → (X.getD j 0).toNat = (a.getD j 0).toNat ^^^ (b.getD j 0).toNat ^^^ (c.getD j 0).toNat
  below : Below w.heap.size w wr

theorem min4 (ts : Array TypeId) (t : TypeId) (x y z v m : Int) (hm : m = (if v < (if z < (if y < x then y else x) then z else (if y < x then y else x)) then v else (if z < (if y < x then y else x) then z else (if y < x then y else x)))) (W : World) : (Builtin.min_ ts t #[.int .i64 x, .int .i64 y, .int .i64 z, .int .i64 v]).run Try.prog W = .ok (.int .i64 m) W := by
  rw [hm]
  simp [Builtin.min_, Builtin.min2]

theorem xor8 (x y : Int) (hx : 0 ≤ x ∧ x ≤ 255) (hy : 0 ≤ y ∧ y ≤ 255) : bits .xor .u8 x y = ((x.toNat ^^^ y.toNat : Nat) : Int) ∧ 0 ≤ bits .xor .u8 x y ∧ bits .xor .u8 x y ≤ 255 := by
  have h := u8_xor_nat x.toNat y.toNat (by omega) (by omega)
  have e1 : ((x.toNat : Nat) : Int) = x := by omega
  have e2 : ((y.toNat : Nat) : Int) = y := by omega
  rw [e1, e2] at h
  have hl : x.toNat ^^^ y.toNat < 2 ^ 8 := Nat.xor_lt_two_pow (by omega) (by omega)
  rw [h]
  exact ⟨rfl, by omega, by omega⟩

set_option maxHeartbeats 4000000 in
theorem walk (w : World) (A1 : Option Addr) (n1 c1 : Nat) (l1 : List UInt8) (hy1 : By.Bys w w.heap.size A1 n1 l1) (hn1 : n1 ≤ 9223372036854775807) (hA1 : A1 = none → n1 = 0 ∧ c1 = 0) (hc1 : n1 ≤ c1)
    (A2 : Option Addr) (n2 c2 : Nat) (l2 : List UInt8) (hy2 : By.Bys w w.heap.size A2 n2 l2) (hn2 : n2 ≤ 9223372036854775807) (hA2 : A2 = none → n2 = 0 ∧ c2 = 0) (hc2 : n2 ≤ c2)
    (A3 : Option Addr) (n3 c3 : Nat) (l3 : List UInt8) (hy3 : By.Bys w w.heap.size A3 n3 l3) (hn3 : n3 ≤ 9223372036854775807) (hA3 : A3 = none → n3 = 0 ∧ c3 = 0) (hc3 : n3 ≤ c3) :
    Calls Try.prog 6 #[.slice A1 n1 c1, .slice A2 n2 c2, .slice A3 n3 c3] w fun e w' => e = .returned (.bool true) ∧ Below w.heap.size w w' := by
  clear hA1 hA2 hA3
  obtain ⟨n, hn⟩ : ∃ n : Nat, n = min (min (min n1 n2) n3) 500 := ⟨_, rfl⟩
  have h1 : n ≤ n1 := by omega
  have h2 : n ≤ n2 := by omega
  have h3 : n ≤ n3 := by omega
  have h5 : n ≤ 500 := by omega
  have HY := Lib.hid (And.intro hy1 (And.intro hy2 hy3))
  have HN := Lib.hid hn
  have hmk := By.make_bytes n (by omega)
  clear hy1 hy2 hy3 hn
  have hmin := min4 #[3, 3, 3, 3] 3 (n1 : Int) (n2 : Int) (n3 : Int) 500 (n : Int) (by have := HN.out; split <;> split <;> (try split) <;> omega)
  have hown := By.made_own w n (by omega)
  have H0 : Hid (Filling w (w.alloc (.cells (madeCells #[.int .u8 0] n) 5)) w.heap.size n 0 l1 l2 l3) := Lib.hid ⟨⟨_, hown, fun j hj => by omega⟩, (Below.refl _ _).alloc (Nat.le_refl _) _⟩
  clear hown
  go_enter Try.func6, Try.ntmps6
  go_wp2_with fail
  go_loopw [9] (fun s9 wr => ∃ i : Nat, s9 = .int .i64 (i : Int) ∧ i ≤ n ∧ Filling w wr w.heap.size n i l1 l2 l3) (fun s9 _ => n - (intOf s9).toNat)
  case atStart => exact ⟨0, rfl, by omega, H0.out⟩
  case round =>
    clear H0 hmin hmk
    obtain ⟨i, rfl, hi, hF⟩ := hrel
    have i0 : (0 : Int) ≤ (i : Int) := by omega
    obtain ⟨⟨X, hX, hE⟩, hB⟩ := hF
    have hXl : X.length = n := by have := hX.1; rw [By.cellsB_length] at this; omega
    by_cases hlt : i < n
    · have i1 : (i : Int) < (n : Int) := by omega
      have i2 : decide (i < n) = true := by simp; omega
      have j1 : (i : Int) < (n1 : Int) := by omega
      have j2 : (i : Int) < (n2 : Int) := by omega
      have j3 : (i : Int) < (n3 : Int) := by omega
      obtain ⟨g1, o1, rfl, hg1, k1⟩ := (HY.out.1.below hB (Nat.le_refl _)).at (k := i) (by omega)
      obtain ⟨g2, o2, rfl, hg2, k2⟩ := (HY.out.2.1.below hB (Nat.le_refl _)).at (k := i) (by omega)
      obtain ⟨g3, o3, rfl, hg3, k3⟩ := (HY.out.2.2.below hB (Nat.le_refl _)).at (k := i) (by omega)
      have r1 := By.at_in l1 i
      have r2 := By.at_in l2 i
      have r3 := By.at_in l3 i
      obtain ⟨x1, x2, x3⟩ := xor8 _ _ r1 r2
      obtain ⟨z1, z2, z3⟩ := xor8 _ _ ⟨x2, x3⟩ r3
      have q1 := hX.cellAt i (by omega)
      obtain ⟨u, hu⟩ : ∃ u, (By.cellsB X)[i]? = some u := ⟨_, List.getElem?_eq_getElem (by rw [By.cellsB_length]; omega)⟩
      rw [hu] at q1
      have qf := hX.frozenAt i
      have HS : Hid (Filling w (wr.setCell ⟨w.heap.size, i, none⟩ (.int .u8 (bits .xor .u8 (bits .xor .u8 (By.at_ l1 i) (By.at_ l2 i)) (By.at_ l3 i)))).drew w.heap.size n (i + 1) l1 l2 l3) := Lib.hid (by
        obtain ⟨h1, h2⟩ := hX.stored i (.int .u8 (bits .xor .u8 (bits .xor .u8 (By.at_ l1 i) (By.at_ l2 i)) (By.at_ l3 i)))
        refine ⟨⟨X.set i (UInt8.ofNat (bits .xor .u8 (bits .xor .u8 (By.at_ l1 i) (By.at_ l2 i)) (By.at_ l3 i)).toNat), ?_, fun j hj => ?_⟩, (hB.setCell (Nat.le_refl _) _).drew⟩
        · rw [By.cellsB_set, By.toNat_small (by omega), show (((bits .xor .u8 (bits .xor .u8 (By.at_ l1 i) (By.at_ l2 i)) (By.at_ l3 i)).toNat : Nat) : Int) = bits .xor .u8 (bits .xor .u8 (By.at_ l1 i) (By.at_ l2 i)) (By.at_ l3 i) by omega]
          exact h1
        · by_cases hji : j = i
          · subst hji
            rw [List.getD, List.getElem?_set_self (by omega)]
            show (UInt8.ofNat _).toNat = _
            rw [By.toNat_small (by omega), z1, x1]
            rfl
          · rw [List.getD, List.getElem?_set_ne (fun e => hji e.symm)]
            exact hE j (by omega))
      clear hX hE hB hXl hu x1 x2 x3 z1 z2 z3
      go_wp2_with fail
      go_region
      all_goals
        go_wp2
        refine ⟨⟨i + 1, by go_num, by omega, HS.out⟩, ?_⟩
        simp [intOf]
        omega
    · obtain rfl : i = n := by omega
      have i1 : ¬ (i : Int) < (i : Int) := by omega
      have i2 : decide (i < i) = false := by simp
      have hs1 := fun W => By.slice_to A1 n1 c1 i (by omega) W
      have hs2 := fun W => By.slice_to A2 n2 c2 i (by omega) W
      have hs3 := fun W => By.slice_to A3 n3 c3 i (by omega) W
      have hY1 := (HY.out.1.below hB (Nat.le_refl _)).take h1
      have hY2 := (HY.out.2.1.below hB (Nat.le_refl _)).take h2
      have hY3 := (HY.out.2.2.below hB (Nat.le_refl _)).take h3
      have hYX := By.Bys.own hX
      have hsum := Cr.sum_three (l1.take i) (l2.take i) (l3.take i) X (by rw [hY1.len, hXl]) (by rw [hY2.len, hXl]) (by rw [hY3.len, hXl]) (fun j hj => by
        rw [hE j (by omega)]
        have e : ∀ l : List UInt8, (l.take i).getD j 0 = l.getD j 0 := fun l => by
          rw [List.getD, List.getElem?_take, if_pos (by omega)]; rfl
        rw [e, e, e])
      have hws := hB.size
      have HBB := Lib.hid hB
      have M : ∀ (A : Option Addr) (c : Nat) (l : List UInt8), By.Bys wr wr.heap.size A i l → ∀ W, Below wr.heap.size wr W → Calls Try.prog 9 #[.slice A i c] W fun e w' => e = .returned (.int .u32 (Cr.sum l : Int)) ∧ Below wr.heap.size wr w' := fun A c l h W hW =>
        (Cr.sum_any i c wr.heap.size A l W (h.below hW (Nat.le_refl _)) (by omega)).mono fun e w' ⟨he, hb⟩ => ⟨he, hW.trans (hb.mono hW.size)⟩
      have M0 := Lib.hid (M _ i X hYX)
      have M1 := Lib.hid (M _ c1 _ hY1.size)
      have M2 := Lib.hid (M _ c2 _ hY2.size)
      have M3 := Lib.hid (M _ c3 _ hY3.size)
      have MA : Hid (∀ W, Below wr.heap.size wr W → Calls Try.prog 8 #[] W fun e w' => e = .returned (.bool true) ∧ Below wr.heap.size wr w') := Lib.hid (fun W hW => (Cr.awake_any W).mono fun e w' ⟨he, hb⟩ => ⟨he, hW.trans (hb.mono hW.size)⟩)
      have hs01 : Cr.sum (l1.take i) < 2 ^ 32 := Cr.more_lt _ _
      have hs02 : Cr.sum (l2.take i) < 2 ^ 32 := Cr.more_lt _ _
      have hs03 : Cr.sum (l3.take i) < 2 ^ 32 := Cr.more_lt _ _
      have x12 := Cr.xor32 _ _ hs01 hs02
      have x3 := Cr.xor32 _ _ (Nat.xor_lt_two_pow hs01 hs02) hs03
      rw [← hsum] at x3
      clear M hX hE hB hYX hY1 hY2 hY3 hsum hs01 hs02 hs03 hXl
      generalize Cr.sum X = s0 at *
      generalize Cr.sum (l1.take i) ^^^ Cr.sum (l2.take i) = t12 at *
      generalize Cr.sum (l1.take i) = s1 at *
      generalize Cr.sum (l2.take i) = s2 at *
      generalize Cr.sum (l3.take i) = s3 at *
      go_wp2_with fail
      go_region_held3 (fun u => Below wr.heap.size wr u)
        (first
          | assumption
          | exact (Below.refl _ _).drew
          | exact Below.refl _ _)
        (first
          | (go_at_call 8; refine (MA.out _ (by first | assumption | exact (Below.refl _ _).drew)).mono ?_; rintro e wz ⟨rfl, hz⟩)
          | (go_at_call 9; ((with_reducible refine (M0.out _ (by first | assumption | exact (Below.refl _ _).drew)).mono ?_); rintro e wz ⟨rfl, hz⟩))
          | (go_at_call 9; ((with_reducible refine (M1.out _ (by first | assumption | exact (Below.refl _ _).drew)).mono ?_); rintro e wz ⟨rfl, hz⟩))
          | (go_at_call 9; ((with_reducible refine (M2.out _ (by first | assumption | exact (Below.refl _ _).drew)).mono ?_); rintro e wz ⟨rfl, hz⟩))
          | (go_at_call 9; ((with_reducible refine (M3.out _ (by first | assumption | exact (Below.refl _ _).drew)).mono ?_); rintro e wz ⟨rfl, hz⟩)))
      go_wp2
      go_ret
      exact ⟨rfl, HBB.out.trans (hz.mono HBB.out.size)⟩


set_option maxRecDepth 100000 in
theorem lifted (os : Os) (started : os.Started) (H : Type) (enc : TypeId × Value → H) :
    ReturnsInHanded {} Try.checked os 6 .any (Rows.crcThreeSpec.pre6 enc Try.prog Try.f6 Rows.crcThreeRow.domain false) (Rows.crcThreeSpec.post enc Try.prog Try.f6 false true false false) := by
  refine returnsInHanded_of_change (C := Try.checked) own started (by kernel_rfl) Try.func6
    (ChangeSpec.witness6 (enc := enc) (C := Try.checked) false ⟨#[], #[.slice none 0 0, .slice none 0 0, .slice none 0 0], []⟩ 8 (by kernel_rfl) (by kernel_rfl) (by kernel_rfl) (by kernel_rfl)) ?_
  intro W base args ds gs before hval0 hW hcnd _
  have hval : ∀ (j : Nat) t v, Try.f6.params[j]? = some t → args[j]? = some v → Value.okWide Try.prog W .any base t v := hval0
  have hW' := hW
  obtain ⟨p, q, hA0, hV, rfl, hfz, hnd⟩ := hW
  have hA : DataW.TrodAll enc Try.prog W 0 (fun _ => true) true Try.f6.params.toList args.toList ds p := hA0
  rw [Try.params6] at hA hval
  obtain ⟨v0, vs0, d0, ds0, p0, q0, hargs, rfl, rfl, h0, r0⟩ := trodAll_cons hA
  obtain ⟨v1, vs1, d1, ds1, p1, q1, rfl, rfl, rfl, h1, r1⟩ := trodAll_cons r0
  obtain ⟨v2, vs2, d2, ds2, p2, q2, rfl, rfl, rfl, h2, r2⟩ := trodAll_cons r1
  obtain ⟨rfl, rfl, rfl⟩ := trodAll_nil r2
  obtain rfl : args = #[v0, v1, v2] := by cases args; simp_all
  obtain ⟨A0, n0, c0, l0, rfl, x0, y0, z0, u0⟩ := Hk.open_bytes Try.underlying23 Try.underlying5 (by kernel_rfl) (hval 0 23 v0 rfl rfl) h0
  obtain ⟨A1, n1, c1, l1, rfl, x1, y1, z1, u1⟩ := Hk.open_bytes Try.underlying23 Try.underlying5 (by kernel_rfl) (hval 1 23 v1 rfl rfl) h1
  obtain ⟨A2, n2, c2, l2, rfl, x2, y2, z2, u2⟩ := Hk.open_bytes Try.underlying23 Try.underlying5 (by kernel_rfl) (hval 2 23 v2 rfl rfl) h2
  refine (walk W A0 n0 c0 l0 x0 y0 z0 u0 A1 n1 c1 l1 x1 y1 z1 u1 A2 n2 c2 l2 x2 y2 z2 u2).mono fun e W' ⟨he, hb⟩ => ?_
  subst he
  exact ⟨_, rfl, Hk.closeLaw (tb := 4) (by kernel_rfl) (by kernel_rfl) rfl rfl rfl Try.underlying4 hW' hb⟩

theorem over : Rows.crcThreeRow.holds Try.pinned (OpenSpec.ofChange Rows.crcThreeSpec) :=
  OpenClaim.holds_of_wide 6 Try.f6 rfl rfl rfl rfl rfl rfl rfl ⟨rfl, rfl, rfl, rfl, rfl⟩ rfl rfl rfl rfl rfl (by kernel_rfl) Try.func6 (by kernel_rfl)
    (of_decide_eq_true (by kernel_rfl)) (by unfold Func.isWrapper; first | (rw [if_pos (by decide +kernel)]; kernel_rfl) | (rw [if_neg (by decide +kernel)]; exact ⟨rfl, rfl⟩))
    (fun os started H enc _ => lifted os started H enc)

/-- The statement. -/
theorem proved : Rows.CrcThreeSaid :=
  over
end Go.Proofs.Ytipjcmkfgfcoiaa.crcThree
