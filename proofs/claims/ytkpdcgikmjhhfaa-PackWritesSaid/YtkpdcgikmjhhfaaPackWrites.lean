/- P4.1: whatever is written, up to forty numbers, texts and flags, Bytes tells its bytes, and what is done to them later turns nothing; for every slice of steps. No conditions. -/
import Derived.Test.YtkpdcgikmjhhfaaPkF
import Derived.Test.YtkpdcgikmjhhfaaKitC
namespace Go.Proofs.Ytkpdcgikmjhhfaa.packWrites
open Go.ChangeShapes Go.WideShapes Go.ChangeAt Go.RowKit
set_option linter.unusedVariables false

theorem own : ownKnob Try.prog.godebug = none := by kernel_rfl

theorem many (w : World) (A : Option Addr) (n c : Nat) (o : Nat → Pk.Stp) (ha : Pk.Stps w w.heap.size A n o) (hn : n ≤ 9223372036854775807) (hs : ∀ k, k < n → (o k).n ≤ 9223372036854775807 ∧ (o k).s.size ≤ maxLen) (hf : Pk.fewB o n = false) :
    Calls Try.prog 3 #[.slice A n c] w fun e w' => e = .returned (.bool true) ∧ Below w.heap.size w w' := by
  have HFW := Pk.few_any A n c o w.heap.size w ha hn (fun k hk => (hs k hk).2)
  rw [hf] at HFW
  have HFF := Lib.hid HFW
  clear HFW ha hs hf
  go_enter Try.func3, Try.ntmps3
  go_wp2_with fail
  refine HFF.out.mono ?_
  rintro e w1 ⟨rfl, rfl⟩
  go_wp2_with fail
  refine (Pk.awake_any _).mono ?_
  rintro e w1 ⟨rfl, hb⟩
  go_wp2
  go_ret
  exact ⟨rfl, hb⟩

/-- The writer, and the copy of what it told. -/
structure Both (w wi : World) (q : Nat) (r : Option Nat) (l : List UInt8) (A : Option Addr) (c : Nat) : Prop where
  wr : Pk.IsW wi w.heap.size q r l
  own : By.Own8 wi w.heap.size (.slice A l.length c) l
  below : Below w.heap.size w wi

theorem Both.next {w wi wj : World} {q c : Nat} {r : Option Nat} {l : List UInt8} {A : Option Addr} (h : Both w wi q r l A c) (hb : Below wi.heap.size wi wj) : Both w wj q r l A c := ⟨h.wr.below hb, h.own.below hb, h.below.trans (hb.mono h.below.size)⟩

set_option maxHeartbeats 4000000 in
set_option maxRecDepth 100000 in
theorem short (w : World) (A : Option Addr) (n c : Nat) (o : Nat → Pk.Stp) (ha : Pk.Stps w w.heap.size A n o) (hn : n ≤ 9223372036854775807) (hs : ∀ k, k < n → (o k).n ≤ 9223372036854775807 ∧ (o k).s.size ≤ maxLen) (hf : Pk.fewB o n = true) :
    Calls Try.prog 3 #[.slice A n c] w fun e w' => e = .returned (.bool true) ∧ Below w.heap.size w w' := by
  obtain ⟨i0, hi0, hz0, hz1, hz2⟩ := info_parts By.info_u8
  have HFW := Pk.few_any A n c o w.heap.size w ha hn (fun k hk => (hs k hk).2)
  rw [hf] at HFW
  have HFF := Lib.hid HFW
  obtain ⟨hn40, hs300⟩ := Pk.fewB_yes hf
  have HS := Lib.hid (And.intro (fun k hk => (hs k hk).1) hs300)
  have HEL : Hid ((Pk.encs o n).length ≤ 20000) := Lib.hid (by have := Pk.encs_len HS.out.1 HS.out.2 n (Nat.le_refl _); omega)
  have HST := Lib.hid ha
  have HWR := Lib.hid (fun W hW => Pk.write_any A n c o W hW hn40 HS.out.2 HS.out.1)
  have HW0 : Hid (Pk.IsW (w.alloc (.cells #[.slice none 0 0] 28)) w.heap.size w.heap.size none [] ∧ Below w.heap.size w (w.alloc (.cells #[.slice none 0 0] 28))) := Lib.hid ⟨Pk.IsW.new w _ (Nat.le_refl _), (Below.refl _ _).alloc (Nat.le_refl _) _⟩
  have n1 : (n : Int) ≤ 40 := by omega
  clear HFW ha hs hf hs300 hn
  go_enter Try.func3, Try.ntmps3
  go_wp2_with fail
  refine HFF.out.mono ?_
  rintro e w1 ⟨rfl, rfl⟩
  go_wp2
  go_loopw [4] (fun s4 wr => ∃ (k : Nat) (r : Option Nat), s4 = .int .i64 (k : Int) ∧ k ≤ n ∧ Pk.IsW wr w.heap.size w.heap.size r (Pk.encs o k) ∧ Below w.heap.size w wr) (fun s4 _ => n - (intOf s4).toNat)
  case atStart => exact ⟨0, none, rfl, by omega, HW0.out.1, HW0.out.2⟩
  case round =>
    clear HW0 HFF
    obtain ⟨k, r, rfl, hk, hW, hB⟩ := hrel
    have k0 : (0 : Int) ≤ (k : Int) := by omega
    by_cases hlt : k < n
    · have k1 : (k : Int) < (n : Int) := by omega
      have k2 : decide (k < n) = true := by simp; omega
      obtain ⟨b, off, rfl, hbm, a0, a1, a2, a3, a4, a5⟩ := HST.out k hlt
      have c0 := (hB.cell (p := ⟨b, off + k * 6, none⟩) hbm).trans a0
      have c1 := (hB.cell (p := ⟨b, off + k * 6 + 1, none⟩) hbm).trans a1
      have c2 := (hB.cell (p := ⟨b, off + k * 6 + 2, none⟩) hbm).trans a2
      have c3 := (hB.cell (p := ⟨b, off + k * 6 + 3, none⟩) hbm).trans a3
      have c4 := (hB.cell (p := ⟨b, off + k * 6 + 4, none⟩) hbm).trans a4
      have c5 := (hB.cell (p := ⟨b, off + k * 6 + 5, none⟩) hbm).trans a5
      have hbr : b < wr.heap.size := by have := hB.size; omega
      have HO := Lib.hid (And.intro hW hB)
      have HLN : Hid ((Pk.encs o k).length ≤ 1000000) := Lib.hid (by
        have h1 := Pk.encs_len HS.out.1 HS.out.2 k hk
        omega)
      have HSM := Lib.hid (And.intro (HS.out.1 k hlt) (HS.out.2 k hlt))
      have hkd := Pk.kindOf_lt (o k).kind
      clear hW hB a0 a1 a2 a3 a4 a5 hbm
      go_wp2_with fail
      refine (Pk.kind_any (o k) wr).mono ?_
      rintro e w2 ⟨rfl, hb2⟩
      have HW2 : Hid (Pk.IsW w2 w.heap.size w.heap.size r (Pk.encs o k) ∧ Below w.heap.size w w2) := Lib.hid ⟨HO.out.1.below hb2, HO.out.2.trans (hb2.mono HO.out.2.size)⟩
      have d0 := (hb2.cell (p := ⟨b, off + k * 6 + 3, none⟩) hbr).trans c3
      have d1 := (hb2.cell (p := ⟨b, off + k * 6 + 4, none⟩) hbr).trans c4
      have d2 := (hb2.cell (p := ⟨b, off + k * 6 + 5, none⟩) hbr).trans c5
      clear c0 c1 c2 c3 c4 c5 hb2 HO
      by_cases e0 : Pk.kindOf (o k).kind = 0
      · have HE : Hid (Pk.enc (o k) = By.num (o k).n.toNat) := Lib.hid (by unfold Pk.enc; rw [if_pos e0])
        rw [e0]
        clear e0 hkd
        go_wp2_with fail
        refine (Pk.wnum_any (o k).n _ _ _ _ w2 HSM.out.1 HW2.out.1 (by have := HLN.out; omega)).mono ?_
        rintro e w3 ⟨rfl, hW⟩
        have HF : Hid (∃ r', Pk.IsW w3 w.heap.size w.heap.size r' (Pk.encs o (k + 1)) ∧ Below w.heap.size w w3) := Lib.hid (by
          have hb3 := HW2.out.2.trans (Pk.Wrote.toBelow HW2.out.1 hW)
          obtain ⟨r', h1, _, _⟩ := hW
          refine ⟨r', ?_, hb3⟩
          rw [Pk.encs, HE.out]
          exact h1)
        clear hW
        go_wp2
        go_roundw
        case rel =>
          obtain ⟨r', h1, h2⟩ := HF.out
          exact ⟨k + 1, r', by go_num, by omega, h1, h2⟩
        case measure => simp [intOf]; omega
      · by_cases e1 : Pk.kindOf (o k).kind = 1
        · have HE : Hid (Pk.enc (o k) = By.text (o k).s.data.toList) := Lib.hid (by unfold Pk.enc; rw [if_neg e0, if_pos e1])
          rw [e1]
          clear e0 e1 hkd
          go_wp2_with fail
          refine (Pk.wtext_any (o k).s _ _ _ _ w2 (by have := HSM.out.2; omega) HW2.out.1 (by have := HLN.out; omega)).mono ?_
          rintro e w3 ⟨rfl, hW⟩
          have HF : Hid (∃ r', Pk.IsW w3 w.heap.size w.heap.size r' (Pk.encs o (k + 1)) ∧ Below w.heap.size w w3) := Lib.hid (by
            have hb3 := HW2.out.2.trans (Pk.Wrote.toBelow HW2.out.1 hW)
            obtain ⟨r', h1, _, _⟩ := hW
            refine ⟨r', ?_, hb3⟩
            rw [Pk.encs, HE.out]
            exact h1)
          clear hW
          go_wp2
          go_roundw
          case rel =>
            obtain ⟨r', h1, h2⟩ := HF.out
            exact ⟨k + 1, r', by go_num, by omega, h1, h2⟩
          case measure => simp [intOf]; omega
        · have HE : Hid (Pk.enc (o k) = By.flag (o k).is) := Lib.hid (by unfold Pk.enc; rw [if_neg e0, if_neg e1])
          have e2 : Pk.kindOf (o k).kind = 2 := by omega
          rw [e2]
          clear e0 e1 e2 hkd
          go_wp2_with fail
          refine (Pk.wflag_any (o k).is _ _ _ _ w2 HW2.out.1 (by have := HLN.out; omega)).mono ?_
          rintro e w3 ⟨rfl, hW⟩
          have HF : Hid (∃ r', Pk.IsW w3 w.heap.size w.heap.size r' (Pk.encs o (k + 1)) ∧ Below w.heap.size w w3) := Lib.hid (by
            have hb3 := HW2.out.2.trans (Pk.Wrote.toBelow HW2.out.1 hW)
            obtain ⟨r', h1, _, _⟩ := hW
            refine ⟨r', ?_, hb3⟩
            rw [Pk.encs, HE.out]
            exact h1)
          clear hW
          go_wp2
          go_roundw
          case rel =>
            obtain ⟨r', h1, h2⟩ := HF.out
            exact ⟨k + 1, r', by go_num, by omega, h1, h2⟩
          case measure => simp [intOf]; omega
    · have hkn : k = n := by omega
      subst hkn
      have k1 : ¬ (k : Int) < (k : Int) := by omega
      have k2 : decide (k < k) = false := by simp
      have HO := Lib.hid (And.intro hW hB)
      clear hW hB
      generalize hL : Pk.encs o k = L at *
      clear hL
      obtain ⟨z, hz⟩ : ∃ z, L.length = z := ⟨_, rfl⟩
      have HZ := Lib.hid hz
      have hz2' : z ≤ 20000 := by have := HEL.out; omega
      clear hz
      go_wp2_with fail
      refine ((Pk.wbytes_any _ _ _ _ _ HO.out.1 (by have := HEL.out; omega)).mono fun e w' h => By.Rowed.n h HZ.out).mono ?_
      rintro e w1 ⟨A1, c1, rfl, ho, hb⟩
      have HO1 : Hid (Pk.IsW w1 w.heap.size w.heap.size r L ∧ Below w.heap.size w w1) := Lib.hid ⟨HO.out.1.below hb, HO.out.2.trans (hb.mono HO.out.2.size)⟩
      have HA := Lib.hid ho
      have HLT : Hid (w.heap.size ≤ wr.heap.size ∧ wr.heap.size ≤ w1.heap.size ∧ w.heap.size < wr.heap.size ∧ ∀ g, r = some g → g < wr.heap.size) := Lib.hid ⟨HO.out.2.size, hb.size, HO.out.1.lt.2.1, fun g hg => (HO.out.1.lt.2.2 g hg).2⟩
      have hws := HO1.out.2.size
      clear ho hb HO
      go_wp2_with ((at_builtin; refine By.wpList_append_bytes _ rfl _ _ 26 rfl w1.heap.size 5 i0 Try.underlying26 hi0 hz0 hz1 hz2 (.slice none 0 0) 0 [] rfl (World.ownsRow_nil _ _ _ _) w1.heap.size A1 z c1 L rfl (By.Bys.own HA.out) (Mv.own_none HA.out) (by omega) (Nat.le_refl _) ?_; intro v' w2 hown hgrow hfr))
      rw [Nat.zero_add, List.nil_append] at hown
      obtain ⟨A2, c2, rfl⟩ := Mv.own_value hown
      have hb2 : Below w1.heap.size w1 w2 := (Below.refl _ _).grown hgrow (Nat.le_refl _) (fun g hg => by cases hg)
      have HO2 : Hid (Pk.IsW w2 w.heap.size w.heap.size r L ∧ Below w.heap.size w w2) := Lib.hid ⟨HO1.out.1.below hb2, HO1.out.2.trans (hb2.mono HO1.out.2.size)⟩
      have HA2 := Lib.hid (Qu.row_below HA.out hb2)
      have HB2 := Lib.hid hown
      clear hown hgrow hfr HO1
      go_wp2_with fail
      refine (By.spoil_any w2 wr.heap.size z c1 A1 L HA2.out (by omega)).mono ?_
      rintro e w3 ⟨rfl, hg⟩
      have HO3 : Hid (Pk.IsW w3 w.heap.size w.heap.size r L ∧ Below w.heap.size w w3 ∧ w3.ownsRow w1.heap.size 5 1 (.slice A2 z c2) z (By.cellsB L)) := Lib.hid (by
        refine ⟨HO2.out.1.only (Mv.Only.ofGrown (S := fun g => wr.heap.size ≤ g) hg (fun g h => (World.ownsRow.lt HA2.out g h).1)) (by have := HLT.out.2.2.1; omega) (fun g h => by have := HLT.out.2.2.2 g h; omega), ?_, ?_⟩
        · exact HO2.out.2.grown hg HO2.out.2.size (fun g h => by have := (World.ownsRow.lt HA2.out g h).1; have := HLT.out.1; omega)
        · refine Mv.own_only HB2.out (Mv.Only.ofGrown (S := fun g => g < w1.heap.size) hg (fun g h => (World.ownsRow.lt HA.out g h).2)) (fun g h hlt => ?_)
          have := (World.ownsRow.lt HB2.out g h).1
          omega)
      clear hg HO2 HA2 HB2 HA
      go_wp2_with fail
      refine (Pk.awake_any _).mono ?_
      rintro e w4 ⟨rfl, hb⟩
      have HO4 : Hid (Pk.IsW w4 w.heap.size w.heap.size r L ∧ Below w.heap.size w w4 ∧ w4.ownsRow w1.heap.size 5 1 (.slice A2 z c2) z (By.cellsB L)) := Lib.hid ⟨HO3.out.1.below hb, HO3.out.2.1.trans (hb.mono HO3.out.2.1.size), Qu.row_below HO3.out.2.2 hb⟩
      clear hb HO3
      go_wp2_with fail
      refine ((HWR.out w4 (HST.out.below HO4.out.2.1 (Nat.le_refl _)).up).mono fun e w' h => By.Rowed.n h HZ.out).mono ?_
      rintro e w5 ⟨A5, c5, rfl, ho5, hb⟩
      have HO5 : Hid (Pk.IsW w5 w.heap.size w.heap.size r L ∧ Below w.heap.size w w5 ∧ w5.ownsRow w1.heap.size 5 1 (.slice A2 z c2) z (By.cellsB L)) := Lib.hid ⟨HO4.out.1.below hb, HO4.out.2.1.trans (hb.mono HO4.out.2.1.size), Qu.row_below HO4.out.2.2 hb⟩
      have HY5 := Lib.hid (By.Bys.own ho5)
      clear hb HO4 ho5
      go_wp2_with fail
      refine (By.bytes_any A2 A5 z z c2 c5 _ L L _ (By.Bys.own HO5.out.2.2) HY5.out).mono ?_
      rintro e w6 ⟨rfl, rfl⟩
      have hbb : (L == L) = true := by simp
      rw [hbb]
      clear HY5 hbb
      go_wp2_with fail
      refine ((Pk.wbytes_any _ _ _ _ _ HO5.out.1 (by have := HEL.out; omega)).mono fun e w' h => By.Rowed.n h HZ.out).mono ?_
      rintro e w7 ⟨A7, c7, rfl, ho7, hb⟩
      have HO7 : Hid (Below w.heap.size w w7 ∧ w7.ownsRow w1.heap.size 5 1 (.slice A2 z c2) z (By.cellsB L)) := Lib.hid ⟨HO5.out.2.1.trans (hb.mono HO5.out.2.1.size), Qu.row_below HO5.out.2.2 hb⟩
      have HY7 := Lib.hid (By.Bys.own ho7)
      clear hb HO5 ho7
      go_wp2_with fail
      refine (By.bytes_any A7 A2 z z c7 c2 _ L L _ HY7.out (By.Bys.own HO7.out.2)).mono ?_
      rintro e w8 ⟨rfl, rfl⟩
      have hbb : (L == L) = true := by simp
      rw [hbb]
      clear HY7 hbb
      go_wp2
      go_ret
      exact ⟨rfl, HO7.out.1⟩

theorem walk (w : World) (A : Option Addr) (n c : Nat) (o : Nat → Pk.Stp) (ha : Pk.Stps w w.heap.size A n o) (hn : n ≤ 9223372036854775807) (hs : ∀ k, k < n → (o k).n ≤ 9223372036854775807 ∧ (o k).s.size ≤ maxLen) :
    Calls Try.prog 3 #[.slice A n c] w fun e w' => e = .returned (.bool true) ∧ Below w.heap.size w w' := by
  rcases Bool.eq_false_or_eq_true (Pk.fewB o n) with hf | hf
  · exact short w A n c o ha hn hs hf
  · exact many w A n c o ha hn hs hf


set_option maxRecDepth 100000 in
theorem lifted (os : Os) (started : os.Started) (H : Type) (enc : TypeId × Value → H) :
    ReturnsInHanded {} Try.checked os 3 .any (Rows.packWritesSpec.pre6 enc Try.prog Try.f3 Rows.packWritesRow.domain false) (Rows.packWritesSpec.post enc Try.prog Try.f3 false true false false) := by
  refine returnsInHanded_of_change (C := Try.checked) own started (by kernel_rfl) Try.func3
    (ChangeSpec.witness6 (enc := enc) (C := Try.checked) false ⟨#[], #[.slice none 0 0], []⟩ 8 (by kernel_rfl) (by kernel_rfl) (by kernel_rfl) (by kernel_rfl)) ?_
  intro W base args ds gs before hval0 hW hcnd _
  have hval : ∀ (j : Nat) t v, Try.f3.params[j]? = some t → args[j]? = some v → Value.okWide Try.prog W .any base t v := hval0
  have hW' := hW
  obtain ⟨p, q, hA0, hV, rfl, hfz, hnd⟩ := hW
  have hA : DataW.TrodAll enc Try.prog W 0 (fun _ => true) true Try.f3.params.toList args.toList ds p := hA0
  rw [Try.params3] at hA hval
  obtain ⟨v0, vs0, d0, ds0, p0, q0, hargs, rfl, rfl, h0, r0⟩ := trodAll_cons hA
  obtain ⟨rfl, rfl, rfl⟩ := trodAll_nil r0
  obtain rfl : args = #[v0] := by cases args; simp_all
  obtain ⟨A0, n0, c0, o0, rfl, x0, y0, z0⟩ := Pk.open_steps (hval 0 22 v0 rfl rfl) h0
  refine (walk W A0 n0 c0 o0 x0 y0 z0).mono fun e W' ⟨he, hb⟩ => ?_
  subst he
  exact ⟨_, rfl, Hk.closeLaw (tb := 4) (by kernel_rfl) (by kernel_rfl) rfl rfl rfl Try.underlying4 hW' hb⟩

theorem over : Rows.packWritesRow.holds Try.pinned (OpenSpec.ofChange Rows.packWritesSpec) :=
  OpenClaim.holds_of_wide 3 Try.f3 rfl rfl rfl rfl rfl rfl rfl ⟨rfl, rfl, rfl, rfl, rfl⟩ rfl rfl rfl rfl rfl (by kernel_rfl) Try.func3 (by kernel_rfl)
    (of_decide_eq_true (by kernel_rfl)) (by unfold Func.isWrapper; first | (rw [if_pos (by decide +kernel)]; kernel_rfl) | (rw [if_neg (by decide +kernel)]; exact ⟨rfl, rfl⟩))
    (fun os started H enc _ => lifted os started H enc)

/-- The statement. -/
theorem proved : Rows.PackWritesSaid :=
  over
end Go.Proofs.Ytkpdcgikmjhhfaa.packWrites
