/- P7.1: of a leaf's bytes with some bits turned within 32 neighbouring ones of what is summed there is no leaf; for every leaf near to a raw one, every int and uint32. No conditions. -/
import Derived.Test.YtbicdmhmpmdoeaaLfO
import Derived.Test.YtbicdmhmpmdoeaaKitC
namespace Go.Proofs.Ytbicdmhmpmdoeaa.leafTurned
open Go.ChangeShapes Go.WideShapes Go.ChangeAt Go.RowKit
set_option linter.unusedVariables false

theorem own : ownKnob Try.prog.godebug = none := by kernel_rfl

theorem and_bit (u i : Nat) (hu : u < 2 ^ 32) : bits .and .u32 ((u : Int) / 2 ^ i) 1 = (Cr.bitsOf u i : Int) := by
  have e2 : (u : Int) / 2 ^ i = ((u / 2 ^ i : Nat) : Int) := by simp
  rw [e2, Cr.and1 _ (Nat.lt_of_le_of_lt (Nat.div_le_self _ _) hu)]
  rfl

theorem xor_bit8 (x : Int) (p : Nat) (hx : 0 ≤ x ∧ x ≤ 255) (hp : p < 8) : bits .xor .u8 x (2 ^ p % 256) = ((x.toNat ^^^ 2 ^ p : Nat) : Int) ∧ x.toNat ^^^ 2 ^ p < 256 := by
  have hlt : 2 ^ p < 2 ^ 8 := Nat.pow_lt_pow_right (by omega) hp
  have h := u8_xor_nat x.toNat (2 ^ p) (by omega) (by omega)
  have e1 : ((x.toNat : Nat) : Int) = x := by omega
  have e2 : (2 : Int) ^ p % 256 = ((2 ^ p : Nat) : Int) := by
    have e3 : (2 : Int) ^ p = ((2 ^ p : Nat) : Int) := by simp
    rw [e3]
    generalize (2 : Nat) ^ p = y at hlt ⊢
    omega
  rw [e1] at h
  rw [e2]
  exact ⟨h, Nat.xor_lt_two_pow (n := 8) (by omega) hlt⟩

/-- The bytes, the first i bits of the burst turned. -/
structure Turn (x : List UInt8) (t u i : Nat) (C : List UInt8) : Prop where
  len : C.length = 64
  bits : ∀ j, Cr.bitAt C j = (Cr.bitAt x j + Cr.burstAt t u i j) % 2
  tail : ∀ k, 56 ≤ k → C[k]? = x[k]?
  none : u = 0 → C = x

theorem Turn.start {x : List UInt8} (t u : Nat) (hx : x.length = 64) : Turn x t u 0 x := ⟨hx, fun j => by
  unfold Cr.burstAt
  rw [if_neg (by omega)]
  unfold Cr.bitAt
  omega, fun _ _ => rfl, fun _ => rfl⟩

theorem Turn.same {x C : List UInt8} {t u i : Nat} (h : Turn x t u i C) (hu : Cr.bitsOf u i = 0) : Turn x t u (i + 1) C := ⟨h.len, Cr.same_step h.bits hu, h.tail, h.none⟩

theorem Turn.turn {x C : List UInt8} {t u i : Nat} (h : Turn x t u i C) (hu : Cr.bitsOf u i = 1) (hi : i < 32) (ht : t + 32 ≤ 448) (y : UInt8) (hy : y.toNat = (C.getD ((t + i) / 8) 0).toNat ^^^ 2 ^ ((t + i) % 8)) : Turn x t u (i + 1) (C.set ((t + i) / 8) y) :=
  ⟨by rw [List.length_set, h.len], Cr.turned_step h.bits y (by rw [h.len]; omega) hu hy, fun k hk => by rw [List.getElem?_set_ne (by omega)]; exact h.tail k hk, fun h0 => by rw [h0] at hu; unfold Cr.bitsOf at hu; simp at hu⟩

theorem bit_take (C : List UInt8) (j : Nat) : Cr.bitAt (C.take 56) j = if j < 448 then Cr.bitAt C j else 0 := by
  unfold Cr.bitAt
  by_cases h : j < 448
  · rw [if_pos h, List.getD, List.getElem?_take, if_pos (by omega)]
    rfl
  · rw [if_neg h, List.getD, List.getElem?_take, if_neg (by omega)]
    simp

theorem Turn.takes {x C : List UInt8} {t u : Nat} (h : Turn x t u 32 C) (hu : u < 2 ^ 32) (ht : t + 32 ≤ 448) (hx : x.length = 64) (hs : Lf.cut x 56 4 = Lf.be4 (Cr.sum (x.take 56))) (hr : Lf.takesB x = true) : Lf.takesB C = decide (u = 0) := by
  by_cases h0 : u = 0
  · rw [h.none h0, hr, h0]
    rfl
  · rw [decide_eq_false h0]
    refine Lf.turned_none h.len hs h.tail fun e => h0 ?_
    refine (Cr.sum_turned (b := x.take 56) (C := C.take 56) (at_ := t) hu (by rw [List.length_take, List.length_take, h.len, hx]) (by rw [List.length_take, hx]; exact ht) fun j => ?_).1 e.symm
    rw [bit_take, bit_take]
    by_cases hj : j < 448
    · rw [if_pos hj, if_pos hj]
      exact h.bits j
    · rw [if_neg hj, if_neg hj]
      unfold Cr.burstAt
      rw [if_neg (by omega)]

set_option maxHeartbeats 8000000 in
theorem walk (w : World) (e n m c : Nat) (f l : Bool) (A : Option Addr) (d : List UInt8) (hb : By.Bys w w.heap.size A m d) (hA : A = none → m = 0 ∧ c = 0) (hc : m ≤ c) (he : e < 2 ^ 32) (hn : n < 2 ^ 32) (hm : m ≤ 9223372036854775807) (a1 : Int) (w1' : (Lit.int .i64 a1).wf = true) (a2 : Int) (w2' : (Lit.int .u32 a2).wf = true) :
    Calls Try.prog 6 #[.agg #[.int .u32 (e : Int), .int .u32 (n : Int), .bool f, .bool l, .slice A m c], .int .i64 a1, .int .u32 a2] w fun e w' => e = .returned (.bool true) ∧ Below w.heap.size w w' := by
  have hu2 := bounds_u32 w2'
  obtain ⟨u, rfl⟩ : ∃ u : Nat, a2 = (u : Int) := ⟨a2.toNat, by omega⟩
  have hu : u < 2 ^ 32 := by omega
  have u1 : (u : Int) ≤ 4294967295 := by omega
  have u0 : (0 : Int) ≤ (u : Int) := by omega
  obtain ⟨t, t1, t2, t3, t4⟩ := By.umod_in a1 417 (by omega) (by omega)
  have t0 : (0 : Int) ≤ (t : Int) := by omega
  have tn : t + 32 ≤ 448 := by omega
  have hb0 : Below w.heap.size w (w.alloc (.cells (Lf.LeafC e n f l A m c) 25)) := (Below.refl _ _).alloc (Nat.le_refl _) _
  have HN := Lib.hid (Lf.near_any (w.alloc (.cells (Lf.LeafC e n f l A m c) 25)) e n m c f l A d ((hb.below hb0 (Nat.le_refl _)).size) hA hc he hn hm)
  have HB0 := Lib.hid hb0
  obtain ⟨L, hL⟩ : ∃ L, Lf.nearL ⟨e, n, f, l, d⟩ = L := ⟨_, rfl⟩
  have HR := Lib.hid (show Lf.rightB L = true ∧ L.epoch < 2 ^ 32 ∧ L.number < 2 ^ 32 by
    rw [← hL]
    exact ⟨Lf.near_right _, by show max e 1 < 2 ^ 32; omega, hn⟩)
  have HL := Lib.hid hL
  have HU := Lib.hid (And.intro hu tn)
  clear hb0 hb hA hc hm hL he hn w1' w2' hu2 hu
  go_enter Try.func6, Try.ntmps6
  go_wp2_with fail
  refine HN.out.mono ?_
  rintro en w1 hN1
  unfold Lf.Neared at hN1
  rw [HL.out] at hN1
  obtain ⟨A1, c1, rfl, hY1, hZ1, hc1, hd1, k1⟩ := hN1
  have HB1 := Lib.hid (show Below w.heap.size w w1 ∧ By.Bys w1 w1.heap.size A1 L.data.length L.data from ⟨HB0.out.trans (k1.mono (by simp)), hY1⟩)
  clear hY1 hZ1 hc1 hd1 k1 HN HB0
  go_wp2_with fail
  refine (Lf.lay_right w1 L.epoch L.number L.data.length c1 L.first L.last A1 L.data HB1.out.2 HR.out.2.1 HR.out.2.2 HR.out.1).mono ?_
  rintro en w3 ⟨rfl, k3⟩
  have eL : (⟨L.epoch, L.number, L.first, L.last, L.data⟩ : Lf.Leaf) = L := rfl
  rw [eL]
  obtain ⟨S, hS⟩ : ∃ S, Lf.layB L = S := ⟨_, rfl⟩
  have HS : Hid (Lf.takesB S = true ∧ Lf.cut S 56 4 = Lf.be4 (Cr.sum (S.take 56))) := Lib.hid (by
    rw [← hS]
    exact ⟨Lf.takes_lay L HR.out.1 HR.out.2.1 HR.out.2.2, Lf.lay_sum L⟩)
  have hSl : S.length = 64 := by rw [← hS]; exact Lf.layB_len _
  rw [hS]
  have HB3 := Lib.hid (HB1.out.1.trans (k3.mono HB1.out.1.size))
  clear k3 eL hS HB1 HR HL
  go_upto_region 2 with (first
    | (with_reducible refine Dk.new_sec (w := w3) (op := ⟨some 7, _, _, _, _, _⟩) rfl rfl ?_; intro w4 hS4 hB4 hZ4)
    | ((with_reducible refine Dk.store_sec (w := w4) (op := ⟨none, _, _, _, _, _⟩) ?_ (.tmp 7) (.tmp 16) ?_ _ ?_ S ?_ _ hS4 hSl ?_); (next => rfl); (next => rfl); (next => rfl); (next => rfl); intro w5 hS5 hG5))
  obtain ⟨g, hg⟩ : ∃ g, w3.heap.size = g := ⟨_, rfl⟩
  have k5 : Below w3.heap.size w3 w5 := hB4.grown hG5 hB4.size (fun k hk => by injection hk with hk; omega)
  rw [hg] at hS5 ⊢
  have HB5 := Lib.hid (show Below w.heap.size w w5 ∧ Dk.Sec w5 g S ∧ w.heap.size ≤ g from ⟨HB3.out.trans (k5.mono HB3.out.size), hS5, by have := HB3.out.size; omega⟩)
  clear hS4 hB4 hZ4 hS5 hG5 k5 hg HB3
  go_wp2_with fail
  refine (Lf.awake_any w5).mono ?_
  rintro en w6 ⟨rfl, k6⟩
  have HB6 := Lib.hid (show Below w.heap.size w w6 ∧ Dk.Sec w6 g S ∧ w.heap.size ≤ g from ⟨HB5.out.1.trans (k6.mono HB5.out.1.size), Lf.Sec.below HB5.out.2.1 k6, HB5.out.2.2⟩)
  clear k6 HB5
  have HSL := Lib.hid hSl
  go_wp2_with fail
  go_loopw [9] (fun s9 wr => ∃ (i : Nat) (C : List UInt8), s9 = .int .i64 (i : Int) ∧ i ≤ 32 ∧ Turn S t u i C ∧ Dk.Sec wr g C ∧ Below w.heap.size w wr) (fun s9 _ => 32 - (intOf s9).toNat)
  case atStart => exact ⟨0, S, rfl, by omega, Turn.start t u hSl, HB6.out.2.1, HB6.out.1⟩
  case round =>
    have HG := Lib.hid HB6.out.2.2
    clear HB6
    obtain ⟨i, C, rfl, hi, hT, hC, hB⟩ := hrel
    have i0' : (0 : Int) ≤ (i : Int) := by omega
    have HT := Lib.hid hT
    clear hT
    by_cases hlt : i < 32
    · have i1 : (i : Int) < 32 := by omega
      by_cases hbit : Cr.bitsOf u i = 1
      · have hand := and_bit u i HU.out.1
        rw [hbit] at hand
        obtain ⟨q, hq⟩ : ∃ q, (t + i) / 8 = q := ⟨_, rfl⟩
        have hqn : q < 64 := by omega
        have q1 : ((t : Int) + (i : Int)) / 8 < 64 := by omega
        have q0 : (0 : Int) ≤ ((t : Int) + (i : Int)) / 8 := by omega
        have hcb : ∃ b, C[q]? = some b := ⟨_, List.getElem?_eq_getElem (by have := HT.out.len; omega)⟩
        obtain ⟨b, hcb⟩ := hcb
        have c1 : wr.cell? ⟨g, (t + i) / 8, none⟩ = some (.int .u8 (By.at_ C q)) := by rw [hq, hC.2.cell, Dk.secCells_at, hcb, By.at_some hcb]; rfl
        have f1 := hC.2.frozen ((t + i) / 8)
        have r1 := By.at_in C q
        have HBIT := Lib.hid hbit
        have HQ := Lib.hid hq
        have HS' : Hid (∃ C', Turn S t u (i + 1) C' ∧ Dk.Sec (wr.setCell ⟨g, (t + i) / 8, none⟩ (.int .u8 (bits .xor .u8 (By.at_ C q) (2 ^ ((t + i) % 8) % 256)))) g C' ∧ Below w.heap.size w (wr.setCell ⟨g, (t + i) / 8, none⟩ (.int .u8 (bits .xor .u8 (By.at_ C q) (2 ^ ((t + i) % 8) % 256))))) := Lib.hid (by
          obtain ⟨x1, x2⟩ := xor_bit8 (By.at_ C q) ((t + i) % 8) r1 (by omega)
          have ha : (By.at_ C q).toNat = (C.getD q 0).toNat := by unfold By.at_; omega
          rw [x1]
          have h1 := hC.byte (k := (t + i) / 8) (((By.at_ C q).toNat ^^^ 2 ^ ((t + i) % 8) : Nat) : Int) (by omega)
          rw [Int.toNat_natCast] at h1
          refine ⟨_, HT.out.turn HBIT.out hlt HU.out.2 _ ?_, h1, hB.setCell HG.out _⟩
          rw [By.toNat_small x2, ha, HQ.out])
        clear hC hB hbit hq hcb
        go_wp2_with fail
        refine ⟨?_, by simp [intOf]; omega⟩
        obtain ⟨C', s1, s2, s3⟩ := HS'.out
        exact ⟨i + 1, C', by go_num, by omega, s1, s2, s3⟩
      · have hb0 : Cr.bitsOf u i = 0 := by unfold Cr.bitsOf at hbit ⊢; omega
        have hand := and_bit u i HU.out.1
        rw [hb0] at hand
        have HS' := Lib.hid (HT.out.same hb0)
        have HO := Lib.hid (And.intro hC hB)
        clear hC hB hbit hb0
        go_wp2_with fail
        refine ⟨?_, by simp [intOf]; omega⟩
        exact ⟨i + 1, C, by go_num, by omega, HS'.out, HO.out.1, HO.out.2⟩
    · obtain rfl : i = 32 := by omega
      have i1 : ¬ (32 : Int) < 32 := by omega
      have hCl := HT.out.len
      have HTK := Lib.hid (HT.out.takes HU.out.1 HU.out.2 HSL.out HS.out.2 HS.out.1)
      have HO := Lib.hid hB
      clear hB
      go_wp2_with (first
        | ((with_reducible refine Dk.load_sec (w := wr) (op := ⟨some 53, _, _, _, _, _⟩) ?_ (.tmp 7) ?_ _ ?_ _ hC ?_); (next => rfl); (next => rfl); (next => rfl)))
      clear hC
      refine (Lf.take_any wr C hCl).mono ?_
      rintro en w7 ht
      unfold Lf.Took at ht
      rw [HTK.out] at ht
      by_cases hz : u = 0
      · rw [decide_eq_true hz, if_pos rfl] at ht
        subst hz
        obtain ⟨A7, c7, rfl, _, k7⟩ := ht
        have HB7 := Lib.hid (HO.out.trans (k7.mono HO.out.size))
        clear k7
        generalize Lf.readB C = Y at *
        go_wp2_with (first
          | (with_reducible refine Lf.new_leaf (w := w7) (op := ⟨some 10, _, _, _, _, _⟩) rfl rfl ?_; intro w8 hL8 hB8 hZ8)
          | ((with_reducible refine Lf.store_leaf (w := w8) (op := ⟨none, _, _, _, _, _⟩) ?_ (.tmp 10) (.tmp 55) ?_ _ ?_ (Lf.LeafC Y.epoch Y.number Y.first Y.last A7 Y.data.length c7) ?_ hL8 ?_ (Lf.LeafC_one _ _ _ _ _ _ _) ?_); (next => rfl); (next => rfl); (next => rfl); (next => rfl); (next => rfl); intro w9 hK9 hG9))
        go_ret
        have k9 : Below w7.heap.size w7 w9 := hB8.grown hG9 hB8.size (fun k hk => by injection hk with hk; omega)
        exact ⟨rfl, HB7.out.trans (k9.mono HB7.out.size)⟩
      · rw [decide_eq_false hz, if_neg (by simp)] at ht
        obtain ⟨rfl, k7⟩ := ht
        have e1 : ((u : Int) == 0) = false := beq_eq_false_iff_ne.2 (by omega)
        have HB7 := Lib.hid (HO.out.trans (k7.mono HO.out.size))
        clear k7 hz
        go_wp2_with (first
          | (with_reducible refine Lf.new_leaf (w := w7) (op := ⟨some 10, _, _, _, _, _⟩) rfl rfl ?_; intro w8 hL8 hB8 hZ8)
          | ((with_reducible refine Lf.store_leaf (w := w8) (op := ⟨none, _, _, _, _, _⟩) ?_ (.tmp 10) (.tmp 55) ?_ _ ?_ Lf.ZeroC ?_ hL8 ?_ Lf.ZeroC_one ?_); (next => rfl); (next => rfl); (next => rfl); (next => rfl); (next => rfl); intro w9 hK9 hG9))
        go_ret
        have k9 : Below w7.heap.size w7 w9 := hB8.grown hG9 hB8.size (fun k hk => by injection hk with hk; omega)
        exact ⟨rfl, HB7.out.trans (k9.mono HB7.out.size)⟩

set_option maxRecDepth 100000 in
theorem lifted (os : Os) (started : os.Started) (H : Type) (enc : TypeId × Value → H) :
    ReturnsInHanded {} Try.checked os 6 .any (Rows.leafTurnedSpec.pre6 enc Try.prog Try.f6 Rows.leafTurnedRow.domain false) (Rows.leafTurnedSpec.post enc Try.prog Try.f6 false true false false) := by
  refine returnsInHanded_of_change (C := Try.checked) own started (by kernel_rfl) Try.func6
    (ChangeSpec.witness6 (enc := enc) (C := Try.checked) false ⟨#[], #[.agg #[.int .u32 0, .int .u32 0, .bool false, .bool false, .slice none 0 0], .int .i64 0, .int .u32 0], []⟩ 8 (by kernel_rfl) (by kernel_rfl) (by kernel_rfl) (by kernel_rfl)) ?_
  intro W base args ds gs before hval0 hW hcnd _
  have hval : ∀ (j : Nat) t v, Try.f6.params[j]? = some t → args[j]? = some v → Value.okWide Try.prog W .any base t v := hval0
  have hW' := hW
  obtain ⟨p, q, hA0, hV, rfl, hfz, hnd⟩ := hW
  have hA : DataW.TrodAll enc Try.prog W 0 (fun _ => true) true Try.f6.params.toList args.toList ds p := hA0
  rw [Try.params6] at hA hval
  obtain ⟨v0, vs0, d0, ds0, p0, q0, hargs, rfl, rfl, h0, r0⟩ := trodAll_cons hA
  obtain ⟨v1, vs1, d1, ds1, p1, q1, rfl, rfl, rfl, h1, r1⟩ := trodAll_cons r0
  obtain ⟨v2, vs2, d2, ds2, p2, q2, rfl, rfl, rfl, h2, r2⟩ := trodAll_cons r1
  obtain ⟨rfl, rfl, rfl⟩ := trodAll_nil r2
  obtain rfl : args = #[v0, v1, v2] := by cases args; simp_all
  obtain ⟨e0, n0, f0, l0, A0, m0, c0, d0, rfl, p0, q0, x0, z0, u0, y0⟩ := Lf.open_leaf (hval 0 25 v0 rfl rfl) h0
  obtain ⟨a1, rfl, _, _, w1⟩ := open_int Try.underlying3 (hval 1 3 v1 rfl rfl) h1
  obtain ⟨a2, rfl, _, _, w2⟩ := open_int Try.underlying22 (hval 2 22 v2 rfl rfl) h2
  refine (walk W e0 n0 m0 c0 f0 l0 A0 d0 x0 z0 u0 p0 q0 y0 a1 w1 a2 w2).mono fun e W' ⟨he, hb⟩ => ?_
  subst he
  exact ⟨_, rfl, Hk.closeLaw (tb := 4) (by kernel_rfl) (by kernel_rfl) rfl rfl rfl Try.underlying4 hW' hb⟩

theorem over : Rows.leafTurnedRow.holds Try.pinned (OpenSpec.ofChange Rows.leafTurnedSpec) :=
  OpenClaim.holds_of_wide 6 Try.f6 rfl rfl rfl rfl rfl rfl rfl ⟨rfl, rfl, rfl, rfl, rfl⟩ rfl rfl rfl rfl rfl (by kernel_rfl) Try.func6 (by kernel_rfl)
    (of_decide_eq_true (by kernel_rfl)) (by unfold Func.isWrapper; first | (rw [if_pos (by decide +kernel)]; kernel_rfl) | (rw [if_neg (by decide +kernel)]; exact ⟨rfl, rfl⟩))
    (fun os started H enc _ => lifted os started H enc)

/-- The statement. -/
theorem proved : Rows.LeafTurnedSaid :=
  over
end Go.Proofs.Ytbicdmhmpmdoeaa.leafTurned
