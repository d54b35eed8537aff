/- What follows of P5.1: bytes in any pieces, up to two thousand bytes and forty cuts, have the sum of the whole; for every slice of bytes and slice of int. No conditions. -/
import Derived.Test.YtipjcmkfgfcoiaaCrL
import Derived.Test.YtipjcmkfgfcoiaaByB
import Derived.Test.YtipjcmkfgfcoiaaKitC
namespace Go.Proofs.Ytipjcmkfgfcoiaa.crcPieces
open Go.ChangeShapes Go.WideShapes Go.ChangeAt Go.RowKit
set_option linter.unusedVariables false

theorem own : ownKnob Try.prog.godebug = none := by kernel_rfl

theorem long (w : World) (A A2 : Option Addr) (n c m c2 : Nat) (hn : n ≤ 9223372036854775807) (hm : m ≤ 9223372036854775807) (h : 2000 < n ∨ 40 < m) :
    Calls Try.prog 4 #[.slice A n c, .slice A2 m c2] w fun e w' => e = .returned (.bool true) ∧ Below w.heap.size w w' := by
  by_cases hl : 2000 < n
  · have h1 : (2000 : Int) < (n : Int) := by omega
    clear h hl
    go_enter Try.func4, Try.ntmps4
    go_wp2_with fail
    refine (Cr.awake_any _).mono ?_
    rintro e w1 ⟨rfl, hb⟩
    go_wp2
    go_ret
    exact ⟨rfl, hb⟩
  · have h1 : ¬ (2000 : Int) < (n : Int) := by omega
    have h2 : (40 : Int) < (m : Int) := by omega
    clear h hl
    go_enter Try.func4, Try.ntmps4
    go_wp2_with fail
    refine (Cr.awake_any _).mono ?_
    rintro e w1 ⟨rfl, hb⟩
    go_wp2
    go_ret
    exact ⟨rfl, hb⟩

theorem sum_nil : Cr.sum [] = 0 := by decide +kernel

theorem step_sum (l : List UInt8) (j k : Nat) (hj : j ≤ k) (hk : k ≤ l.length) : Cr.more (Cr.sum (l.take j)) ((l.take k).drop j) = Cr.sum (l.take k) := by
  unfold Cr.sum
  rw [Cr.more_more]
  congr 1
  have e : l.take j = (l.take k).take j := by rw [List.take_take, Nat.min_eq_left hj]
  rw [e, List.take_append_drop]

theorem last_sum (l : List UInt8) (j : Nat) : Cr.more (Cr.sum (l.take j)) (l.drop j) = Cr.sum l := by
  unfold Cr.sum
  rw [Cr.more_more, List.take_append_drop]

set_option maxHeartbeats 2000000 in
theorem short (w : World) (A A2 : Option Addr) (n c m c2 : Nat) (l : List UInt8) (f : Nat → Int) (hy : By.Bys w w.heap.size A n l) (hc : n ≤ c) (ha : Hl.Ints w w.heap.size A2 m f) (hn : n ≤ 2000) (hm : m ≤ 40) :
    Calls Try.prog 4 #[.slice A n c, .slice A2 m c2] w fun e w' => e = .returned (.bool true) ∧ Below w.heap.size w w' := by
  have h1 : ¬ (2000 : Int) < (n : Int) := by omega
  have h2 : ¬ (40 : Int) < (m : Int) := by omega
  have HY := Lib.hid hy
  have HA := Lib.hid ha
  have HL := Lib.hid hy.len
  have HS0 := Lib.hid (Cr.sum_any 0 0 w.heap.size none [] w (By.Bys.nil _ _ _) (by omega))
  clear hy ha
  go_enter Try.func4, Try.ntmps4
  go_wp2_with fail
  refine HS0.out.mono ?_
  rintro e w1 ⟨rfl, hb⟩
  have HB1 := Lib.hid hb
  rw [sum_nil]
  clear hb HS0
  go_wp2
  go_loopw [5, 6, 7] (fun s5 s6 s7 wr => ∃ i j : Nat, s7 = .int .i64 (i : Int) ∧ s6 = .int .i64 (j : Int) ∧ i ≤ m ∧ j ≤ n ∧ s5 = .int .u32 ((Cr.sum (l.take j) : Nat) : Int) ∧ Below w.heap.size w wr) (fun _ _ s7 _ => m - (intOf s7).toNat)
  case atStart => exact ⟨0, 0, rfl, rfl, by omega, by omega, by rw [List.take_zero, sum_nil]; rfl, HB1.out⟩
  case round =>
    clear HB1
    obtain ⟨i, j, rfl, rfl, hi, hj, rfl, hB⟩ := hrel
    have i0 : (0 : Int) ≤ (i : Int) := by omega
    have j0 : (0 : Int) ≤ (j : Int) := by omega
    have j1 : (j : Int) ≤ (n : Int) := by omega
    by_cases hlt : i < m
    · have i1 : (i : Int) < (m : Int) := by omega
      have i2 : decide (i < m) = true := by simp; omega
      obtain ⟨g, o, rfl, hg, hcell⟩ := HA.out i hlt
      have c1 := (hB.cell (p := ⟨g, o + i, none⟩) hg).trans hcell
      obtain ⟨t, t1, t2, t3, t4⟩ := By.umod_in (f i) ((n : Int) - (j : Int) + 1) (by omega) (by omega)
      have t0 : (0 : Int) ≤ (t : Int) := by omega
      have htn : j + t ≤ n := by omega
      have hsl := fun W => By.slice_mid A n c j (j + t) (by omega) (by omega) W
      have hjt : ((j + t : Nat) : Int) = (j : Int) + (t : Int) := by omega
      rw [hjt] at hsl
      have HB := Lib.hid hB
      have HST := Lib.hid (step_sum l j (j + t) (by omega) (by have := HL.out; omega))
      have HM := Lib.hid (fun W hW => Cr.more_any (Cr.sum (l.take j)) (j + t - j) (c - j) w.heap.size (if c = j then A else A.map (·.add j)) ((l.take (j + t)).drop j) W (Cr.more_lt _ _) hW (by omega))
      have HYM := Lib.hid (HY.out.mid (show j ≤ j + t by omega) htn hc)
      clear hB hcell hjt
      generalize (if c = j then A else A.map (·.add j)) = A' at *
      generalize j + t - j = n' at *
      generalize c - j = c' at *
      go_wp2_with fail
      refine (HM.out _ (HYM.out.below HB.out (Nat.le_refl _))).mono ?_
      rintro e w2 ⟨rfl, hb⟩
      have HB2 := Lib.hid (HB.out.trans (hb.mono HB.out.size))
      rw [HST.out]
      clear hb
      go_wp2
      go_roundw
      case rel => exact ⟨i + 1, j + t, by go_num, by go_num, by omega, by omega, rfl, HB2.out⟩
      case measure => simp [intOf]; omega
    · obtain rfl : i = m := by omega
      have i1 : ¬ (i : Int) < (i : Int) := by omega
      have i2 : decide (i < i) = false := by simp
      have hsl := fun W => By.slice_from A n c j hj W
      have HB := Lib.hid hB
      have HST := Lib.hid (last_sum l j)
      have HM := Lib.hid (fun W hW => Cr.more_any (Cr.sum (l.take j)) (n - j) (c - j) w.heap.size (if c = j then A else A.map (·.add j)) (l.drop j) W (Cr.more_lt _ _) hW (by omega))
      have HYM := Lib.hid (HY.out.drop hj hc)
      clear hB
      generalize (if c = j then A else A.map (·.add j)) = A' at *
      generalize n - j = n' at *
      generalize c - j = c' at *
      go_wp2_with fail
      refine (Cr.awake_any _).mono ?_
      rintro e w2 ⟨rfl, hb⟩
      have HB2 := Lib.hid (HB.out.trans (hb.mono HB.out.size))
      clear hb
      go_wp2_with fail
      refine (HM.out _ (HYM.out.below HB2.out (Nat.le_refl _))).mono ?_
      rintro e w3 ⟨rfl, hb⟩
      have HB3 := Lib.hid (HB2.out.trans (hb.mono HB2.out.size))
      rw [HST.out]
      clear hb
      go_wp2_with fail
      refine (Cr.sum_any n c w.heap.size A l _ (HY.out.below HB3.out (Nat.le_refl _)) (by omega)).mono ?_
      rintro e w4 ⟨rfl, hb⟩
      have HB4 := Lib.hid (HB3.out.trans (hb.mono HB3.out.size))
      clear hb
      go_wp2
      go_ret
      exact ⟨rfl, HB4.out⟩

theorem walk (w : World) (A : Option Addr) (n c : Nat) (l : List UInt8) (hy : By.Bys w w.heap.size A n l) (hn : n ≤ 9223372036854775807) (hA : A = none → n = 0 ∧ c = 0) (hc : n ≤ c) (A2 : Option Addr) (m c2 : Nat) (f : Nat → Int) (ha : Hl.Ints w w.heap.size A2 m f) (hm : m ≤ 9223372036854775807) (hf : ∀ k, k < m → -9223372036854775808 ≤ f k ∧ f k ≤ 9223372036854775807) :
    Calls Try.prog 4 #[.slice A n c, .slice A2 m c2] w fun e w' => e = .returned (.bool true) ∧ Below w.heap.size w w' := by
  by_cases h : 2000 < n ∨ 40 < m
  · exact long w A A2 n c m c2 hn hm h
  · exact short w A A2 n c m c2 l f hy hc ha (by omega) (by omega)


set_option maxRecDepth 100000 in
theorem lifted (os : Os) (started : os.Started) (H : Type) (enc : TypeId × Value → H) :
    ReturnsInHanded {} Try.checked os 4 .any (Rows.crcPiecesSpec.pre6 enc Try.prog Try.f4 Rows.crcPiecesRow.domain false) (Rows.crcPiecesSpec.post enc Try.prog Try.f4 false true false false) := by
  refine returnsInHanded_of_change (C := Try.checked) own started (by kernel_rfl) Try.func4
    (ChangeSpec.witness6 (enc := enc) (C := Try.checked) false ⟨#[], #[.slice none 0 0, .slice none 0 0], []⟩ 8 (by kernel_rfl) (by kernel_rfl) (by kernel_rfl) (by kernel_rfl)) ?_
  intro W base args ds gs before hval0 hW hcnd _
  have hval : ∀ (j : Nat) t v, Try.f4.params[j]? = some t → args[j]? = some v → Value.okWide Try.prog W .any base t v := hval0
  have hW' := hW
  obtain ⟨p, q, hA0, hV, rfl, hfz, hnd⟩ := hW
  have hA : DataW.TrodAll enc Try.prog W 0 (fun _ => true) true Try.f4.params.toList args.toList ds p := hA0
  rw [Try.params4] at hA hval
  obtain ⟨v0, vs0, d0, ds0, p0, q0, hargs, rfl, rfl, h0, r0⟩ := trodAll_cons hA
  obtain ⟨v1, vs1, d1, ds1, p1, q1, rfl, rfl, rfl, h1, r1⟩ := trodAll_cons r0
  obtain ⟨rfl, rfl, rfl⟩ := trodAll_nil r1
  obtain rfl : args = #[v0, v1] := by cases args; simp_all
  obtain ⟨A0, n0, c0, l0, rfl, x0, y0, z0, u0⟩ := Hk.open_bytes Try.underlying23 Try.underlying5 (by kernel_rfl) (hval 0 23 v0 rfl rfl) h0
  obtain ⟨A1, n1, c1, f1, rfl, x1, y1, z1, u1⟩ := Hk.open_ints_at Try.underlying28 Try.underlying3 (by kernel_rfl) (hval 1 28 v1 rfl rfl) h1
  refine (walk W A0 n0 c0 l0 x0 y0 z0 u0 A1 n1 c1 f1 x1 y1 z1).mono fun e W' ⟨he, hb⟩ => ?_
  subst he
  exact ⟨_, rfl, Hk.closeLaw (tb := 4) (by kernel_rfl) (by kernel_rfl) rfl rfl rfl Try.underlying4 hW' hb⟩

theorem over : Rows.crcPiecesRow.holds Try.pinned (OpenSpec.ofChange Rows.crcPiecesSpec) :=
  OpenClaim.holds_of_wide 4 Try.f4 rfl rfl rfl rfl rfl rfl rfl ⟨rfl, rfl, rfl, rfl, rfl⟩ rfl rfl rfl rfl rfl (by kernel_rfl) Try.func4 (by kernel_rfl)
    (of_decide_eq_true (by kernel_rfl)) (by unfold Func.isWrapper; first | (rw [if_pos (by decide +kernel)]; kernel_rfl) | (rw [if_neg (by decide +kernel)]; exact ⟨rfl, rfl⟩))
    (fun os started H enc _ => lifted os started H enc)

/-- The statement. -/
theorem proved : Rows.CrcPiecesSaid :=
  over
end Go.Proofs.Ytipjcmkfgfcoiaa.crcPieces
