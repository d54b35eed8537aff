/- P4.2: of what is written, a number and a text, a beginning alone ends too early; nothing that is read of it is told behind that; for every int64, string and int. No conditions. -/
import Derived.Test.YtkpdcgikmjhhfaaPkL
import Derived.Test.YtkpdcgikmjhhfaaKitC
namespace Go.Proofs.Ytkpdcgikmjhhfaa.packCut
open Go.ChangeShapes Go.WideShapes Go.ChangeAt Go.RowKit
set_option linter.unusedVariables false

theorem own : ownKnob Try.prog.godebug = none := by kernel_rfl

theorem long (w : World) (a0 a2 : Int) (s : ByteArray) (us : s.size ≤ maxLen) (hl : 200 < s.size) :
    Calls Try.prog 5 #[.int .i64 a0, .string s, .int .i64 a2] w fun e w' => e = .returned (.bool true) ∧ Below w.heap.size w w' := by
  have h1 : (200 : Int) < (s.size : Int) := by omega
  unfold maxLen at us
  go_enter Try.func5, Try.ntmps5
  go_wp2_with fail
  refine (Pk.awake_any _).mono ?_
  rintro e w1 ⟨rfl, hb⟩
  go_wp2
  go_ret
  exact ⟨rfl, hb⟩

/-- A reader that is kept beside new things. -/
structure Kept (w wi : World) (q : Nat) (r : Option Nat) (l : List UInt8) (e : Int) : Prop where
  rd : Pk.IsR wi q r l e
  low : w.heap.size ≤ q
  below : Below w.heap.size w wi

theorem Kept.next {w wi wj : World} {q : Nat} {r : Option Nat} {l : List UInt8} {e : Int} (h : Kept w wi q r l e) (hb : Below wi.heap.size wi wj) : Kept w wj q r l e := ⟨h.rd.below hb, h.low, h.below.trans (hb.mono h.below.size)⟩

theorem Kept.did {w wi wj : World} {q : Nat} {r : Option Nat} {l m : List UInt8} {e f : Int} (h : Kept w wi q r l e) (k : Pk.Did wi wj q r m f) : Kept w wj q r m f := ⟨k.1, h.low, h.below.trans (k.toBelow h.rd h.low)⟩

set_option maxHeartbeats 4000000 in
set_option maxRecDepth 100000 in
theorem short (w : World) (a0 a2 : Int) (s : ByteArray) (ha : a0 ≤ 9223372036854775807) (hl : s.size ≤ 200) :
    Calls Try.prog 5 #[.int .i64 a0, .string s, .int .i64 a2] w fun e w' => e = .returned (.bool true) ∧ Below w.heap.size w w' := by
  obtain ⟨i0, hi0, hz0, hz1, hz2⟩ := info_parts By.info_u8
  have h1 : ¬ (200 : Int) < (s.size : Int) := by omega
  obtain ⟨x, hx⟩ : ∃ x : Nat, a0.toNat = x := ⟨_, rfl⟩
  have hm : (if a0 < 0 then 0 else a0) = (x : Int) := by split <;> omega
  have hm2 : (if 0 < a0 then a0 else 0) = (x : Int) := by split <;> omega
  have hx0 : (x : Int) ≤ 9223372036854775807 := by omega
  have hx1 : (0 : Int) ≤ (x : Int) := by omega
  obtain ⟨F, hF⟩ : ∃ F, (By.num x).length = F := ⟨_, rfl⟩
  obtain ⟨T, hT⟩ : ∃ T, (By.text s.data.toList).length = T := ⟨_, rfl⟩
  have hF9 : F ≤ 9 := by rw [← hF]; exact By.num_nine (by omega)
  have hF0 : 0 < F := by rw [← hF]; exact By.num_pos x
  have hT9 : T ≤ 209 := by
    rw [← hT]; unfold By.text
    have := By.num_nine (v := s.data.toList.length) (by rw [By.size_list]; omega)
    rw [List.length_append, By.size_list] at *
    omega
  have HNum := Lib.hid (fun W => (By.rnum_any (x : Int) W (by omega)).mono fun e w' h => By.Rowed.n (l := By.num x) h hF)
  have HTxt := Lib.hid (fun W => (By.rtext_any s W (by omega)).mono fun e w' h => By.Rowed.n h hT)
  obtain ⟨k, hk1, hk2, hk3, hk4⟩ := By.umod_in a2 ((F + T : Nat) : Int) (by omega) (by omega)
  have hk0 : (0 : Int) ≤ (k : Int) := by omega
  have hkL : k < F + T := by omega
  have hL1 : ((F + T : Nat) : Int) = (F : Int) + (T : Int) := by omega
  have hlen : (By.num x ++ By.text s.data.toList).length = F + T := by rw [List.length_append, hF, hT]
  have HF := Lib.hid hF
  have HT := Lib.hid hT
  have HLEN := Lib.hid hlen
  have HS := Lib.hid hl
  rw [hL1] at hk1 hk2 hk3 hk4
  clear hx hF hT hlen hL1 ha hl
  go_enter Try.func5, Try.ntmps5
  go_wp2_with fail
  refine (HNum.out _).mono ?_
  rintro e w1 ⟨A1, c1, rfl, ho1, hb1⟩
  go_wp2_with fail
  refine (HTxt.out _).mono ?_
  rintro e w2 ⟨A2, c2, rfl, ho2, hb2⟩
  have HO1 := Lib.hid (Qu.row_below ho1 hb2)
  have HY := Lib.hid (By.Bys.own ho2)
  have HNN := Lib.hid (Mv.own_none ho2)
  have HB2 := Lib.hid (Hk.andThen hb1 hb2)
  clear ho1 hb1 ho2 hb2
  go_wp2_with ((at_builtin; refine By.wpList_append_bytes _ rfl _ _ 26 rfl w.heap.size 5 i0 Try.underlying26 hi0 hz0 hz1 hz2 (.slice A1 F c1) F (By.num x) rfl HO1.out w2.heap.size A2 T c2 (By.text s.data.toList) rfl HY.out HNN.out (by omega) HB2.out.size ?_; intro v' w3 hown hgrow hfr; obtain ⟨A3, c3, rfl⟩ := Mv.own_value hown; have hsl := fun W => Pk.slice_to A3 (F + T) c3 k (by have := (Mv.own_cap hown).1; omega) W; have HY3 := Lib.hid (And.intro (By.Bys.own hown) (Mv.own_none hown)); have hc3 := Mv.own_cap hown; have HB3 := Lib.hid (HB2.out.grown hgrow HB2.out.size (fun g hg => (World.ownsRow.lt HO1.out g hg).1)); clear hown hgrow hfr))
  have HRD := Lib.hid (Pk.read_any A3 k c3 _ _ w3 (HY3.out.1.take (show k ≤ F + T by omega)) (fun e => by have := HY3.out.2 e; omega) (by omega))
  generalize hB : (By.num x ++ By.text s.data.toList).take k = b at *
  have HBK := Lib.hid hB
  clear hB HO1 HY HNN HB2 hsl hc3
  refine HRD.out.mono ?_
  rintro e w4 ⟨q, r, rfl, hR, hq, hr, hb⟩
  have HK4 : Hid (Kept w w4 q r b 0) := Lib.hid ⟨hR, by have := HB3.out.size; omega, HB3.out.trans (hb.mono HB3.out.size)⟩
  clear hR hq hr hb HRD
  go_wp2_with fail
  refine (Pk.awake_any _).mono ?_
  rintro e w5 ⟨rfl, hb⟩
  have HK5 := Lib.hid (HK4.out.next hb)
  clear hb HK4 HB3 HY3
  go_wp2_with fail
  refine (HNum.out _).mono ?_
  rintro e w6 ⟨A6, c6, rfl, ho6, hb6⟩
  have HK6 := Lib.hid (HK5.out.next hb6)
  clear ho6 hb6 HK5
  have HNM := Lib.hid (Pk.rnum_any q r b 0 (x : Int) w6 HK6.out.rd)
  by_cases hkF : k < F
  · have n1 : By.numE b 0 (x : Int) = 3 := by rw [← HBK.out]; exact By.numE_cut x k _ 0 x (by omega) (by rw [HF.out]; exact hkF)
    have n2 : By.numV b 0 (x : Int) = 0 := by unfold By.numV; rw [if_neg (by omega)]
    have HNM2 := HNM.out
    rw [n1, n2] at HNM2
    have HN2 := Lib.hid HNM2
    have g1 : ¬ (F : Int) ≤ (k : Int) := by omega
    have g2 : decide (F ≤ k) = false := by simp; omega
    clear HNM HNM2 n1 n2 hkF
    have e3 : Pk.endE (By.numL b 0 (x : Int)) 3 = 3 := by unfold Pk.endE; rw [if_pos (by omega)]
    by_cases hx0 : x = 0
    · subst hx0
      go_wp2_with fail
      refine HN2.out.mono ?_
      rintro e w7 ⟨rfl, hd⟩
      have HK7 := Lib.hid (HK6.out.did hd)
      clear hd HK6
      go_wp2_with fail
      refine (Pk.rtext_fault q r _ 3 200 _ HK7.out.rd (by omega)).mono ?_
      rintro e w8 ⟨rfl, rfl⟩
      go_wp2_with fail
      refine (Pk.rerr_any q r _ 3 _ HK7.out.rd).mono ?_
      rintro e w8 ⟨rfl, rfl⟩
      go_wp2_with fail
      refine (Pk.rend_any q r _ 3 _ HK7.out.rd).mono ?_
      rintro e w8 ⟨rfl, rfl⟩
      rw [e3]
      go_wp2_with fail
      refine (Pk.rflag_fault q r _ 3 _ HK7.out.rd (by omega)).mono ?_
      rintro e w8 ⟨rfl, rfl⟩
      go_wp2_with fail
      refine (Pk.rnum_fault q r _ 3 _ _ _ HK7.out.rd (by omega)).mono ?_
      rintro e w8 ⟨rfl, rfl⟩
      go_wp2
      go_ret
      exact ⟨rfl, HK7.out.below⟩
    · have x1 : ((0 : Int) == (x : Int)) = false := beq_eq_false_iff_ne.2 (by omega)
      have x2 : ((x : Int) == 0) = false := beq_eq_false_iff_ne.2 (by omega)
      clear hx0
      go_wp2_with fail
      refine HN2.out.mono ?_
      rintro e w7 ⟨rfl, hd⟩
      have HK7 := Lib.hid (HK6.out.did hd)
      clear hd HK6
      go_wp2_with fail
      refine (Pk.rtext_fault q r _ 3 200 _ HK7.out.rd (by omega)).mono ?_
      rintro e w8 ⟨rfl, rfl⟩
      go_wp2_with fail
      refine (Pk.rerr_any q r _ 3 _ HK7.out.rd).mono ?_
      rintro e w8 ⟨rfl, rfl⟩
      go_wp2_with fail
      refine (Pk.rend_any q r _ 3 _ HK7.out.rd).mono ?_
      rintro e w8 ⟨rfl, rfl⟩
      rw [e3]
      go_wp2_with fail
      refine (Pk.rflag_fault q r _ 3 _ HK7.out.rd (by omega)).mono ?_
      rintro e w8 ⟨rfl, rfl⟩
      go_wp2_with fail
      refine (Pk.rnum_fault q r _ 3 _ _ _ HK7.out.rd (by omega)).mono ?_
      rintro e w8 ⟨rfl, rfl⟩
      go_wp2
      go_ret
      exact ⟨rfl, HK7.out.below⟩
  · have hb2 : b = By.num x ++ (By.text s.data.toList).take (k - F) := by
      rw [← HBK.out, List.take_append, HF.out, List.take_of_length_le (by rw [HF.out]; omega)]
    obtain ⟨n1, n2, n3⟩ := By.numE_num x ((By.text s.data.toList).take (k - F)) 0 (x : Int) (by omega) (by omega) (by omega)
    have HNM2 := HNM.out
    rw [hb2, n1, n2, n3] at HNM2
    have HN2 := Lib.hid HNM2
    obtain ⟨t1, t2⟩ := By.textE_cut s.data.toList (k - F) 200 (by rw [By.size_list]; have := HS.out; omega) (by rw [By.size_list]; have := HS.out; omega) (by rw [HT.out]; omega)
    have HTX := Lib.hid (And.intro t1 t2)
    have g1 : (F : Int) ≤ (k : Int) := by omega
    have g2 : decide (F ≤ k) = true := by simp; omega
    clear HNM HNM2 n1 n2 n3 t1 t2 hkF hb2
    generalize (By.text s.data.toList).take (k - F) = b2 at *
    have HK6' : Hid (Kept w w6 q r b 0) := HK6
    go_wp2_with fail
    refine HN2.out.mono ?_
    rintro e w7 ⟨rfl, hd⟩
    have HK7 := Lib.hid (HK6.out.did hd)
    have HTE := Pk.rtext_any q r b2 200 _ HK7.out.rd
    rw [HTX.out.1, HTX.out.2] at HTE
    have HTE2 := Lib.hid HTE
    clear hd HK6 HK6' HTE
    have s0 : By.strOf [] = ⟨#[]⟩ := rfl
    have e3 : Pk.endE (By.textL b2 200) 3 = 3 := by unfold Pk.endE; rw [if_pos (by omega)]
    go_wp2_with fail
    refine HTE2.out.mono ?_
    rintro e w8 ⟨rfl, hd⟩
    have HK8 := Lib.hid (HK7.out.did hd)
    clear hd HK7
    go_wp2_with fail
    refine (Pk.rerr_any q r _ 3 _ HK8.out.rd).mono ?_
    rintro e w9 ⟨rfl, rfl⟩
    go_wp2_with fail
    refine (Pk.rend_any q r _ 3 _ HK8.out.rd).mono ?_
    rintro e w9 ⟨rfl, rfl⟩
    rw [e3]
    go_wp2_with fail
    refine (Pk.rflag_fault q r _ 3 _ HK8.out.rd (by omega)).mono ?_
    rintro e w9 ⟨rfl, rfl⟩
    go_wp2_with fail
    refine (Pk.rnum_fault q r _ 3 _ _ _ HK8.out.rd (by omega)).mono ?_
    rintro e w9 ⟨rfl, rfl⟩
    go_wp2
    go_ret
    exact ⟨rfl, HK8.out.below⟩

theorem walk (w : World) (a0 : Int) (w0 : (Lit.int .i64 a0).wf = true) (s1 : ByteArray) (u1 : s1.size ≤ maxLen) (a2 : Int) (w2 : (Lit.int .i64 a2).wf = true) :
    Calls Try.prog 5 #[.int .i64 a0, .string s1, .int .i64 a2] w fun e w' => e = .returned (.bool true) ∧ Below w.heap.size w w' := by
  by_cases hl : 200 < s1.size
  · exact long w a0 a2 s1 u1 hl
  · exact short w a0 a2 s1 (bounds_i64 w0).2 (by omega)


set_option maxRecDepth 100000 in
theorem lifted (os : Os) (started : os.Started) (H : Type) (enc : TypeId × Value → H) :
    ReturnsInHanded {} Try.checked os 5 .any (Rows.packCutSpec.pre6 enc Try.prog Try.f5 Rows.packCutRow.domain false) (Rows.packCutSpec.post enc Try.prog Try.f5 false true false false) := by
  refine returnsInHanded_of_change (C := Try.checked) own started (by kernel_rfl) Try.func5
    (ChangeSpec.witness6 (enc := enc) (C := Try.checked) false ⟨#[], #[.int .i64 0, .string ⟨#[]⟩, .int .i64 0], []⟩ 8 (by kernel_rfl) (by kernel_rfl) (by kernel_rfl) (by kernel_rfl)) ?_
  intro W base args ds gs before hval0 hW hcnd _
  have hval : ∀ (j : Nat) t v, Try.f5.params[j]? = some t → args[j]? = some v → Value.okWide Try.prog W .any base t v := hval0
  have hW' := hW
  obtain ⟨p, q, hA0, hV, rfl, hfz, hnd⟩ := hW
  have hA : DataW.TrodAll enc Try.prog W 0 (fun _ => true) true Try.f5.params.toList args.toList ds p := hA0
  rw [Try.params5] at hA hval
  obtain ⟨v0, vs0, d0, ds0, p0, q0, hargs, rfl, rfl, h0, r0⟩ := trodAll_cons hA
  obtain ⟨v1, vs1, d1, ds1, p1, q1, rfl, rfl, rfl, h1, r1⟩ := trodAll_cons r0
  obtain ⟨v2, vs2, d2, ds2, p2, q2, rfl, rfl, rfl, h2, r2⟩ := trodAll_cons r1
  obtain ⟨rfl, rfl, rfl⟩ := trodAll_nil r2
  obtain rfl : args = #[v0, v1, v2] := by cases args; simp_all
  obtain ⟨a0, rfl, _, _, w0⟩ := open_int Try.underlying2 (hval 0 2 v0 rfl rfl) h0
  obtain ⟨s1, rfl, _, _, u1⟩ := Go.ChangeMaps.open_string Try.underlying9 (hval 1 9 v1 rfl rfl) h1
  obtain ⟨a2, rfl, _, _, w2⟩ := open_int Try.underlying3 (hval 2 3 v2 rfl rfl) h2
  refine (walk W a0 w0 s1 u1 a2 w2).mono fun e W' ⟨he, hb⟩ => ?_
  subst he
  exact ⟨_, rfl, Hk.closeLaw (tb := 4) (by kernel_rfl) (by kernel_rfl) rfl rfl rfl Try.underlying4 hW' hb⟩

theorem over : Rows.packCutRow.holds Try.pinned (OpenSpec.ofChange Rows.packCutSpec) :=
  OpenClaim.holds_of_wide 5 Try.f5 rfl rfl rfl rfl rfl rfl rfl ⟨rfl, rfl, rfl, rfl, rfl⟩ rfl rfl rfl rfl rfl (by kernel_rfl) Try.func5 (by kernel_rfl)
    (of_decide_eq_true (by kernel_rfl)) (by unfold Func.isWrapper; first | (rw [if_pos (by decide +kernel)]; kernel_rfl) | (rw [if_neg (by decide +kernel)]; exact ⟨rfl, rfl⟩))
    (fun os started H enc _ => lifted os started H enc)

/-- The statement. -/
theorem proved : Rows.PackCutSaid :=
  over
end Go.Proofs.Ytkpdcgikmjhhfaa.packCut
