/- What follows of P5.1: bits turned within 32 neighbouring ones, of five to a thousand bytes, turn the sum; for every slice of bytes, int and uint32. No conditions. -/
import Derived.Test.YtipjcmkfgfcoiaaCrL
import Derived.Test.YtipjcmkfgfcoiaaByB
import Derived.Test.YtipjcmkfgfcoiaaKitC
namespace Go.Proofs.Ytipjcmkfgfcoiaa.crcTurned
open Go.ChangeShapes Go.WideShapes Go.ChangeAt Go.RowKit
set_option linter.unusedVariables false

theorem own : ownKnob Try.prog.godebug = none := by kernel_rfl

theorem outside (w : World) (A : Option Addr) (n c : Nat) (a1 a2 : Int) (hn : n ≤ 9223372036854775807) (h : n < 5 ∨ 1000 < n) :
    Calls Try.prog 5 #[.slice A n c, .int .i64 a1, .int .u32 a2] w fun e w' => e = .returned (.bool true) ∧ Below w.heap.size w w' := by
  by_cases hl : n < 5
  · have h1 : (n : Int) < 5 := by omega
    clear h hl
    go_enter Try.func5, Try.ntmps5
    go_wp2_with fail
    refine (Cr.awake_any _).mono ?_
    rintro e w1 ⟨rfl, hb⟩
    go_wp2
    go_ret
    exact ⟨rfl, hb⟩
  · have h1 : ¬ (n : Int) < 5 := by omega
    have h2 : (1000 : Int) < (n : Int) := by omega
    clear h hl
    go_enter Try.func5, Try.ntmps5
    go_wp2_with fail
    refine (Cr.awake_any _).mono ?_
    rintro e w1 ⟨rfl, hb⟩
    go_wp2
    go_ret
    exact ⟨rfl, hb⟩

theorem and_bit (u i : Nat) (hu : u < 2 ^ 32) : bits .and .u32 ((u : Int) / 2 ^ i) 1 = (Cr.bitsOf u i : Int) := by
  have e2 : (u : Int) / 2 ^ i = ((u / 2 ^ i : Nat) : Int) := by simp
  rw [e2, Cr.and1 _ (Nat.lt_of_le_of_lt (Nat.div_le_self _ _) hu)]
  rfl

theorem xor_bit8 (x : Int) (p : Nat) (hx : 0 ≤ x ∧ x ≤ 255) (hp : p < 8) : bits .xor .u8 x (2 ^ p % 256) = ((x.toNat ^^^ 2 ^ p : Nat) : Int) ∧ x.toNat ^^^ 2 ^ p < 256 := by
  have hlt : 2 ^ p < 2 ^ 8 := Nat.pow_lt_pow_right (by omega) hp
  have h := u8_xor_nat x.toNat (2 ^ p) (by omega) (by omega)
  have e1 : ((x.toNat : Nat) : Int) = x := by omega
  have e2 : (2 : Int) ^ p % 256 = ((2 ^ p : Nat) : Int) := by
    have e3 : (2 : Int) ^ p = ((2 ^ p : Nat) : Int) := by simp
    rw [e3]
    generalize (2 : Nat) ^ p = y at hlt ⊢
    omega
  rw [e1] at h
  rw [e2]
  exact ⟨h, Nat.xor_lt_two_pow (n := 8) (by omega) hlt⟩

set_option maxHeartbeats 4000000 in
theorem short (w : World) (A : Option Addr) (n c : Nat) (l : List UInt8) (a1 : Int) (u : Nat) (hu : u < 2 ^ 32) (hy : By.Bys w w.heap.size A n l) (hA : A = none → n = 0 ∧ c = 0) (h5 : 5 ≤ n) (hl : n ≤ 1000) :
    Calls Try.prog 5 #[.slice A n c, .int .i64 a1, .int .u32 (u : Int)] w fun e w' => e = .returned (.bool true) ∧ Below w.heap.size w w' := by
  obtain ⟨i0, hi0, hz0, hz1, hz2⟩ := info_parts By.info_u8
  have h1 : ¬ (n : Int) < 5 := by omega
  have h2 : ¬ (1000 : Int) < (n : Int) := by omega
  have u1 : (u : Int) ≤ 4294967295 := by omega
  have u0 : (0 : Int) ≤ (u : Int) := by omega
  obtain ⟨t, t1, t2, t3, t4⟩ := By.umod_in a1 (8 * (n : Int) - 31) (by omega) (by omega)
  have t0 : (0 : Int) ≤ (t : Int) := by omega
  have tn : t + 32 ≤ 8 * n := by omega
  have HY := Lib.hid hy
  have HA := Lib.hid hA
  have HLL := Lib.hid hy.len
  have HU := Lib.hid hu
  clear hy hA hu
  go_enter Try.func5, Try.ntmps5
  go_wp2_with ((at_builtin; refine By.wpList_append_bytes _ rfl _ _ 23 rfl w.heap.size 5 i0 Try.underlying23 hi0 hz0 hz1 hz2 (.slice none 0 0) 0 [] rfl (World.ownsRow_nil _ _ _ _) w.heap.size A n c l rfl HY.out HA.out (by omega) (Nat.le_refl _) ?_; intro v' w1 hown hgrow hfr; rw [Nat.zero_add, List.nil_append] at hown; obtain ⟨g, cap, rfl, hg, hgl⟩ := hown.form (by omega)))
  have HB1 := Lib.hid ((Below.refl w.heap.size w).grown hgrow (Nat.le_refl _) (fun g hg => by cases hg))
  have H1 : Hid (∀ j, Cr.bitAt l j = (Cr.bitAt l j + Cr.burstAt t u 0 j) % 2) := Lib.hid (fun j => by
    unfold Cr.burstAt
    rw [if_neg (by omega)]
    unfold Cr.bitAt
    omega)
  have HO := Lib.hid hown
  clear hgrow hfr hown hgl
  go_loopw [8] (fun s8 wr => ∃ (i : Nat) (C : List UInt8), s8 = .int .i64 (i : Int) ∧ i ≤ 32 ∧ C.length = n ∧ (∀ j, Cr.bitAt C j = (Cr.bitAt l j + Cr.burstAt t u i j) % 2) ∧ wr.ownsRow w.heap.size 5 1 (.slice (some ⟨g, 0, none⟩) n cap) n (By.cellsB C) ∧ Below w.heap.size w wr) (fun s8 _ => 32 - (intOf s8).toNat)
  case atStart => exact ⟨0, l, rfl, by omega, HLL.out, H1.out, HO.out, HB1.out⟩
  case round =>
    clear H1 HO HB1
    obtain ⟨i, C, rfl, hi, hC, hE, hO, hB⟩ := hrel
    have i0' : (0 : Int) ≤ (i : Int) := by omega
    have HE := Lib.hid hE
    have HCL := Lib.hid hC
    clear hE hC
    by_cases hlt : i < 32
    · have i1 : (i : Int) < 32 := by omega
      by_cases hbit : Cr.bitsOf u i = 1
      · have hand := and_bit u i HU.out
        rw [hbit] at hand
        obtain ⟨q, hq⟩ : ∃ q, (t + i) / 8 = q := ⟨_, rfl⟩
        have hqn : q < n := by omega
        have q1 : ((t : Int) + (i : Int)) / 8 < (n : Int) := by omega
        have q0 : (0 : Int) ≤ ((t : Int) + (i : Int)) / 8 := by omega
        obtain ⟨g', o', hgg, _, hcell⟩ := (By.Bys.own hO).at (k := q) hqn
        injection hgg with hgg
        injection hgg with hgg hoo
        subst hgg hoo
        have c1 : wr.cell? ⟨g, (t + i) / 8, none⟩ = some (.int .u8 (By.at_ C q)) := by rw [hq]; rw [Nat.zero_add] at hcell; exact hcell
        have f1 := hO.frozenAt ((t + i) / 8)
        have r1 := By.at_in C q
        have HBIT := Lib.hid hbit
        have HQ := Lib.hid hq
        have HO := Lib.hid (And.intro hO hB)
        have HS : Hid (∃ C', C'.length = n ∧ (∀ j, Cr.bitAt C' j = (Cr.bitAt l j + Cr.burstAt t u (i + 1) j) % 2) ∧ (wr.setCell ⟨g, (t + i) / 8, none⟩ (.int .u8 (bits .xor .u8 (By.at_ C q) (2 ^ ((t + i) % 8) % 256)))).ownsRow w.heap.size 5 1 (.slice (some ⟨g, 0, none⟩) n cap) n (By.cellsB C') ∧ Below w.heap.size w (wr.setCell ⟨g, (t + i) / 8, none⟩ (.int .u8 (bits .xor .u8 (By.at_ C q) (2 ^ ((t + i) % 8) % 256))))) := Lib.hid (by
          obtain ⟨x1, x2⟩ := xor_bit8 (By.at_ C q) ((t + i) % 8) r1 (by omega)
          have ha : (By.at_ C q).toNat = (C.getD q 0).toNat := by unfold By.at_; omega
          obtain ⟨h1, h2⟩ := hO.stored ((t + i) / 8) (.int .u8 (bits .xor .u8 (By.at_ C q) (2 ^ ((t + i) % 8) % 256)))
          rw [x1] at h1 ⊢
          refine ⟨C.set ((t + i) / 8) (UInt8.ofNat ((By.at_ C q).toNat ^^^ 2 ^ ((t + i) % 8))), by rw [List.length_set, HCL.out], ?_, ?_, hB.setCell hg _⟩
          · refine Cr.turned_step HE.out _ (by rw [HCL.out, HQ.out]; exact hqn) HBIT.out ?_
            rw [By.toNat_small x2, ha, HQ.out]
          · rw [By.cellsB_set, By.toNat_small x2]
            exact h1)
        clear hO hB hbit hq hcell
        go_wp2_with fail
        refine ⟨?_, by simp [intOf]; omega⟩
        obtain ⟨C', s1, s2, s3, s4⟩ := HS.out
        exact ⟨i + 1, C', by go_num, by omega, s1, s2, s3, s4⟩
      · have hb0 : Cr.bitsOf u i = 0 := by unfold Cr.bitsOf at hbit ⊢; omega
        have hand := and_bit u i HU.out
        rw [hb0] at hand
        have HS := Lib.hid (Cr.same_step HE.out hb0)
        have HO := Lib.hid (And.intro hO hB)
        clear hO hB hbit hb0
        go_wp2_with fail
        refine ⟨?_, by simp [intOf]; omega⟩
        exact ⟨i + 1, C, by go_num, by omega, HCL.out, HS.out, HO.out.1, HO.out.2⟩
    · obtain rfl : i = 32 := by omega
      have i1 : ¬ (32 : Int) < 32 := by omega
      have HO := Lib.hid (And.intro (By.Bys.own hO) hB)
      have HSUM := Lib.hid (Cr.sum_turned HU.out (by rw [HCL.out, HLL.out]) (by rw [HLL.out]; exact tn) HE.out)
      clear hO hB
      go_wp2_with fail
      refine (Cr.awake_any _).mono ?_
      rintro e w2 ⟨rfl, hb⟩
      have HO2 := Lib.hid (And.intro (HO.out.1.below hb (Nat.le_refl _)).size (HO.out.2.trans (hb.mono HO.out.2.size)))
      clear hb HO
      go_wp2_with fail
      refine (Cr.sum_any n c w.heap.size A l _ (HY.out.below HO2.out.2 (Nat.le_refl _)) (by omega)).mono ?_
      rintro e w3 ⟨rfl, hb⟩
      have HO3 := Lib.hid (And.intro (HO2.out.1.below hb (Nat.le_refl _)).size (HO2.out.2.trans (hb.mono HO2.out.2.size)))
      clear hb HO2
      go_wp2_with fail
      refine (Cr.sum_any n cap _ _ C _ HO3.out.1 (by omega)).mono ?_
      rintro e w4 ⟨rfl, hb⟩
      have HB4 := Lib.hid (HO3.out.2.trans (hb.mono HO3.out.2.size))
      clear hb HO3
      by_cases hz : u = 0
      · have e1 : Cr.sum l = Cr.sum C := HSUM.out.2 hz
        rw [e1]
        subst hz
        generalize Cr.sum C = z
        clear e1
        go_wp2
        go_ret
        exact ⟨rfl, HB4.out⟩
      · have e1 : ((Cr.sum l : Int) == (Cr.sum C : Int)) = false := beq_eq_false_iff_ne.2 (fun e => hz (HSUM.out.1 (by omega)))
        have e2 : ((u : Int) == 0) = false := beq_eq_false_iff_ne.2 (by omega)
        generalize Cr.sum C = z at *
        generalize Cr.sum l = y at *
        have e3 : (y == z) = false := beq_eq_false_iff_ne.2 (fun e => by have := beq_eq_false_iff_ne.1 e1; omega)
        clear hz
        go_wp2
        go_ret
        exact ⟨rfl, HB4.out⟩

theorem walk (w : World) (A : Option Addr) (n c : Nat) (l : List UInt8) (hy : By.Bys w w.heap.size A n l) (hn : n ≤ 9223372036854775807) (hA : A = none → n = 0 ∧ c = 0) (a1 : Int) (w1 : (Lit.int .i64 a1).wf = true) (a2 : Int) (w2 : (Lit.int .u32 a2).wf = true) :
    Calls Try.prog 5 #[.slice A n c, .int .i64 a1, .int .u32 a2] w fun e w' => e = .returned (.bool true) ∧ Below w.heap.size w w' := by
  by_cases h : n < 5 ∨ 1000 < n
  · exact outside w A n c a1 a2 hn h
  · have hb := bounds_u32 w2
    obtain ⟨u, rfl⟩ : ∃ u : Nat, a2 = (u : Int) := ⟨a2.toNat, by omega⟩
    exact short w A n c l a1 u (by omega) hy hA (by omega) (by omega)


set_option maxRecDepth 100000 in
theorem lifted (os : Os) (started : os.Started) (H : Type) (enc : TypeId × Value → H) :
    ReturnsInHanded {} Try.checked os 5 .any (Rows.crcTurnedSpec.pre6 enc Try.prog Try.f5 Rows.crcTurnedRow.domain false) (Rows.crcTurnedSpec.post enc Try.prog Try.f5 false true false false) := by
  refine returnsInHanded_of_change (C := Try.checked) own started (by kernel_rfl) Try.func5
    (ChangeSpec.witness6 (enc := enc) (C := Try.checked) false ⟨#[], #[.slice none 0 0, .int .i64 0, .int .u32 0], []⟩ 8 (by kernel_rfl) (by kernel_rfl) (by kernel_rfl) (by kernel_rfl)) ?_
  intro W base args ds gs before hval0 hW hcnd _
  have hval : ∀ (j : Nat) t v, Try.f5.params[j]? = some t → args[j]? = some v → Value.okWide Try.prog W .any base t v := hval0
  have hW' := hW
  obtain ⟨p, q, hA0, hV, rfl, hfz, hnd⟩ := hW
  have hA : DataW.TrodAll enc Try.prog W 0 (fun _ => true) true Try.f5.params.toList args.toList ds p := hA0
  rw [Try.params5] at hA hval
  obtain ⟨v0, vs0, d0, ds0, p0, q0, hargs, rfl, rfl, h0, r0⟩ := trodAll_cons hA
  obtain ⟨v1, vs1, d1, ds1, p1, q1, rfl, rfl, rfl, h1, r1⟩ := trodAll_cons r0
  obtain ⟨v2, vs2, d2, ds2, p2, q2, rfl, rfl, rfl, h2, r2⟩ := trodAll_cons r1
  obtain ⟨rfl, rfl, rfl⟩ := trodAll_nil r2
  obtain rfl : args = #[v0, v1, v2] := by cases args; simp_all
  obtain ⟨A0, n0, c0, l0, rfl, x0, y0, z0, u0⟩ := Hk.open_bytes Try.underlying23 Try.underlying5 (by kernel_rfl) (hval 0 23 v0 rfl rfl) h0
  obtain ⟨a1, rfl, _, _, w1⟩ := open_int Try.underlying3 (hval 1 3 v1 rfl rfl) h1
  obtain ⟨a2, rfl, _, _, w2⟩ := open_int Try.underlying22 (hval 2 22 v2 rfl rfl) h2
  refine (walk W A0 n0 c0 l0 x0 y0 z0 a1 w1 a2 w2).mono fun e W' ⟨he, hb⟩ => ?_
  subst he
  exact ⟨_, rfl, Hk.closeLaw (tb := 4) (by kernel_rfl) (by kernel_rfl) rfl rfl rfl Try.underlying4 hW' hb⟩

theorem over : Rows.crcTurnedRow.holds Try.pinned (OpenSpec.ofChange Rows.crcTurnedSpec) :=
  OpenClaim.holds_of_wide 5 Try.f5 rfl rfl rfl rfl rfl rfl rfl ⟨rfl, rfl, rfl, rfl, rfl⟩ rfl rfl rfl rfl rfl (by kernel_rfl) Try.func5 (by kernel_rfl)
    (of_decide_eq_true (by kernel_rfl)) (by unfold Func.isWrapper; first | (rw [if_pos (by decide +kernel)]; kernel_rfl) | (rw [if_neg (by decide +kernel)]; exact ⟨rfl, rfl⟩))
    (fun os started H enc _ => lifted os started H enc)

/-- The statement. -/
theorem proved : Rows.CrcTurnedSaid :=
  over
end Go.Proofs.Ytipjcmkfgfcoiaa.crcTurned
