/- P10.1: whether any text is a name, and one made of small letters, with any byte at any place of it; for every string, two ints and a byte. No conditions. -/
import Derived.Test.YtabfnkjdfninhaaGdL
import Derived.Test.YtabfnkjdfninhaaPyI
import Derived.Test.YtabfnkjdfninhaaBa
set_option maxRecDepth 100000
namespace Go.Proofs.Ytabfnkjdfninhaa.goodsNames
open Go.ChangeShapes Go.WideShapes Go.ChangeAt Go.RowKit
open It (Itm kItem row_item row_ok item_rep)
open Kd (Kind Row Own Cells Fit Agree)
set_option linter.unusedVariables false

theorem own : ownKnob Try.prog.godebug = none := by kernel_rfl

def tS : Nat → ByteArray
  | 0 => ⟨#[]⟩
  | k + 1 => tS k ++ Py.skuS (Py.modN (k : Int) 8)

theorem data_append (a b : ByteArray) : (a ++ b).data.toList = a.data.toList ++ b.data.toList := by simp [ByteArray.data_append]

theorem tS_size : ∀ k, (tS k).size = k
  | 0 => rfl
  | k + 1 => by
    have := tS_size k
    show (tS k ++ Py.skuS (Py.modN (k : Int) 8)).size = k + 1
    rw [ByteArray.size_append, this]
    unfold Py.skuS
    rw [Py.chr_size]

theorem tS_plain : ∀ (k j : Nat) (b : UInt8), (tS k).data.toList[j]? = some b → Sr.plain (b.toNat : Int) = true
  | 0, j, b, h => by simp [tS] at h
  | k + 1, j, b, h => by
    have e : (tS (k + 1)).data.toList = (tS k).data.toList ++ (Py.skuS (Py.modN (k : Int) 8)).data.toList := data_append _ _
    rw [e] at h
    rcases Nat.lt_or_ge j (tS k).data.toList.length with hj | hj
    · rw [List.getElem?_append_left hj] at h
      exact tS_plain k j b h
    · rw [List.getElem?_append_right hj] at h
      have hm := Py.modN_lt (k : Int) 8 (by omega)
      unfold Py.skuS at h
      rw [Py.chr_data] at h
      have hb := List.mem_of_getElem? h
      simp only [List.mem_cons, List.not_mem_nil, or_false] at hb
      subst hb
      rw [By.toNat_small (by omega)]
      unfold Sr.plain
      simp
      omega

theorem tS_name (k : Nat) : Sr.name (tS k) = (decide (1 ≤ k) && decide (k ≤ 12)) := by
  rw [Sr.name_size fun j b => tS_plain k j b, tS_size]

theorem text_one (W : World) (c : Int) (h0 : 0 ≤ c) (h1 : c ≤ 255) : (convert 24 9 (.slice (some ⟨W.heap.size, 0, none⟩) 1 1)).run Try.prog (W.alloc (.cells #[.int .u8 c] 5)) = .ok (.string (Py.chr c.toNat)) (W.alloc (.cells #[.int .u8 c] 5)) :=
  By.run_text (P := Try.prog) (c := 1) 24 9 5 Try.underlying24 Try.underlying5 Try.underlying9 (By.Bys.made W 5 c h0 h1)

theorem str_to (s : ByteArray) (q : Nat) (h : q ≤ s.size) : ∃ L : ByteArray, L.size = q ∧ ∀ W, (Instr.slice 9 (.string s) none (some (.int .i64 (q : Int))) none).run Try.prog W = .ok (.string L) W :=
  ⟨s.extract 0 q, by rw [ByteArray.size_extract]; omega, fun W => by
    rw [run_slice_string_to_if W 9 s .i64 (q : Int) Try.underlying9, if_pos (by omega), Int.toNat_natCast]⟩

theorem str_from (s : ByteArray) (q : Nat) (h : q ≤ s.size) : ∃ L : ByteArray, L.size = s.size - q ∧ ∀ W, (Instr.slice 9 (.string s) (some (.int .i64 (q : Int))) none none).run Try.prog W = .ok (.string L) W :=
  ⟨s.extract q s.size, by rw [ByteArray.size_extract]; omega, fun W => by
    rw [run_slice_string_from_if W 9 s .i64 (q : Int) Try.underlying9, if_pos (by omega), Int.toNat_natCast]⟩

set_option maxHeartbeats 1000000 in
theorem walk (w : World) (s : ByteArray) (hs : s.size ≤ maxLen) (n : Int) (hn : (Lit.int .i64 n).wf = true) (at_ : Int) (hat : (Lit.int .i64 at_).wf = true) (c : Int) (hc : (Lit.int .u8 c).wf = true) :
    Calls Try.prog 3 #[.string s, .int .i64 n, .int .i64 at_, .int .u8 c] w fun e w' => e = .returned (.bool true) ∧ Below w.heap.size w w' := by
  have hcb : 0 ≤ c ∧ c ≤ 255 := bounds_u8 hc
  obtain ⟨m, hm⟩ : ∃ m, Py.modN n 15 = m := ⟨_, rfl⟩
  have HM := Lib.hid (fun W => Py.mod_any n 15 W (by omega) (by omega))
  have hm15 := Py.modN_lt n 15 (by omega)
  rw [hm] at hm15
  simp only [hm] at HM
  have HS := Lib.hid (fun a W => Py.sku_any a W)
  have HN := Lib.hid (fun s W h => Gd.name_any s W h)
  have HR := Lib.hid (fun s W h => Py.rname_any s W h)
  have HT := Lib.hid (fun W => text_one W c hcb.1 hcb.2)
  clear hm hn hat hc
  go_enter Try.func3, Try.ntmps3
  go_wp2
  go_loopw [9, 10] (fun s9 s10 wr => ∃ k : Nat, s9 = .string (tS k) ∧ s10 = .int .i64 k ∧ k ≤ m ∧ Below w.heap.size w wr) (fun _ s10 _ => m - (intOf s10).toNat)
  case atStart => exact ⟨0, rfl, rfl, by omega, Below.refl _ _⟩
  case round =>
    obtain ⟨k, rfl, rfl, hk, hb⟩ := hrel
    have hsz := tS_size k
    have hse : (Py.skuS (Py.modN (k : Int) 8)).size = 1 := by unfold Py.skuS; rw [Py.chr_size]
    have hsucc : tS k ++ Py.skuS (Py.modN (k : Int) 8) = tS (k + 1) := rfl
    have HB := Lib.hid hb
    clear hb
    by_cases hlt : k < m
    · have k1 : (k : Int) < (m : Int) := by omega
      go_wp2_with fail
      refine (HM.out _).mono ?_
      rintro e w1 ⟨rfl, rfl⟩
      go_wp2_with fail
      refine (HS.out _ _).mono ?_
      rintro e w2 ⟨rfl, hb2⟩
      have HB2 := Lib.hid (HB.out.trans (hb2.mono HB.out.size))
      clear hb2
      go_wp2
      go_roundw
      case rel => exact ⟨k + 1, by rw [← hsucc], by go_num, by omega, HB2.out⟩
      case measure => simp [intOf]; omega
    · obtain rfl : k = m := by omega
      have k1 : ¬ (k : Int) < (k : Int) := by omega
      go_wp2_with fail
      refine (HM.out _).mono ?_
      rintro e w1 ⟨rfl, rfl⟩
      obtain ⟨q, hq⟩ : ∃ q, Py.modN at_ ((k : Int) + 1) = q := ⟨_, rfl⟩
      have hq1 := Py.modN_lt at_ ((k : Int) + 1) (by omega)
      have HQ := Lib.hid (fun W => Py.mod_any at_ ((k : Int) + 1) W (by omega) (by omega))
      rw [hq] at hq1
      simp only [hq] at HQ
      clear hq
      go_wp2_with fail
      refine (HQ.out _).mono ?_
      rintro e w2 ⟨rfl, rfl⟩
      obtain ⟨L, hL1, hL2⟩ := str_to (tS k) q (by rw [hsz]; omega)
      obtain ⟨R, hR1, hR2⟩ := str_from (tS k) q (by rw [hsz]; omega)
      obtain ⟨C, hC⟩ : ∃ C, Py.chr c.toNat = C := ⟨_, rfl⟩
      have hC1 : C.size = 1 := by rw [← hC]; exact Py.chr_size _
      have hT : ∀ W : World, (convert 24 9 (.slice (some ⟨W.heap.size, 0, none⟩) 1 1)).run Try.prog (W.alloc (.cells #[.int .u8 c] 5)).drew = .ok (.string (Py.chr c.toNat)) (W.alloc (.cells #[.int .u8 c] 5)).drew := fun W => HT.out W.drew
      simp only [hC] at hT
      have hq0 : (0 : Int) ≤ (q : Int) := by omega
      have hq2 : (q : Int) ≤ (k : Int) := by omega
      rw [hsz] at hR1
      clear hC hse hsucc
      go_wp2_with fail
      go_region
      have HB3 := Lib.hid (HB.out.trans (((Below.refl w2.heap.size w2).alloc (Nat.le_refl _) (.cells #[.int .u8 c] 5)).drew.mono HB.out.size))
      obtain ⟨wx, hwx⟩ : ∃ wx, (w2.alloc (.cells #[.int .u8 c] 5)).drew = wx := ⟨_, rfl⟩
      rw [hwx] at HB3 ⊢
      have hu : (L ++ C ++ R).size ≤ maxLen := by
        rw [ByteArray.size_append, ByteArray.size_append]
        unfold maxLen
        omega
      obtain ⟨U, hU⟩ : ∃ U, L ++ C ++ R = U := ⟨_, rfl⟩
      rw [hU] at hu ⊢
      have N1 := Lib.hid (fun W => HN.out s W hs)
      have R1 := Lib.hid (fun W => HR.out s W hs)
      have N2 := Lib.hid (fun W => HN.out (tS k) W (by rw [hsz]; unfold maxLen; omega))
      have N3 := Lib.hid (fun W => HN.out U W hu)
      have R3 := Lib.hid (fun W => HR.out U W hu)
      have hnm := tS_name k
      have hsz2 : ((tS k).size : Int) = (k : Int) := by rw [hsz]
      clear hU hwx hL2 hR2 hT hu hL1 hR1 hC1
      obtain ⟨b1, hb1⟩ : ∃ b, Sr.name s = b := ⟨_, rfl⟩
      obtain ⟨b3, hb3⟩ : ∃ b, Sr.name U = b := ⟨_, rfl⟩
      simp only [hb1] at N1 R1
      simp only [hb3] at N3 R3
      have e1 : (b1 == b1) = true := by cases b1 <;> rfl
      have e3 : (b3 == b3) = true := by cases b3 <;> rfl
      clear hb1 hb3 hs
      by_cases h1 : 1 ≤ k
      · have i1 : (1 : Int) ≤ (k : Int) := by omega
        have i2 : decide ((k : Int) ≤ 12) = decide (k ≤ 12) := by congr 1; simp; omega
        rw [decide_eq_true h1, Bool.true_and] at hnm
        obtain ⟨b2, hb2⟩ : ∃ b, decide (k ≤ 12) = b := ⟨_, rfl⟩
        rw [hb2] at hnm i2
        simp only [hnm] at N2
        have e2 : (b2 == b2) = true := by cases b2 <;> rfl
        clear hnm
        go_wp2_with fail
        refine (Gd.awake_any _).mono ?_
        rintro e wy ⟨rfl, hby⟩
        have HB4 := Lib.hid (HB3.out.trans (hby.mono HB3.out.size))
        clear hby
        go_wp2_with fail
        refine (N1.out _).mono ?_
        rintro e w3 ⟨rfl, rfl⟩
        go_wp2_with fail
        refine (R1.out _).mono ?_
        rintro e w4 ⟨rfl, rfl⟩
        go_wp2_with fail
        refine (N2.out _).mono ?_
        rintro e w5 ⟨rfl, rfl⟩
        go_wp2_with fail
        refine (N3.out _).mono ?_
        rintro e w6 ⟨rfl, rfl⟩
        go_wp2_with fail
        refine (R3.out _).mono ?_
        rintro e w7 ⟨rfl, rfl⟩
        go_wp2
        go_ret
        exact ⟨rfl, HB4.out⟩
      · have i1 : ¬ (1 : Int) ≤ (k : Int) := by omega
        rw [decide_eq_false h1, Bool.false_and] at hnm
        simp only [hnm] at N2
        clear hnm
        go_wp2_with fail
        refine (Gd.awake_any _).mono ?_
        rintro e wy ⟨rfl, hby⟩
        have HB4 := Lib.hid (HB3.out.trans (hby.mono HB3.out.size))
        clear hby
        go_wp2_with fail
        refine (N1.out _).mono ?_
        rintro e w3 ⟨rfl, rfl⟩
        go_wp2_with fail
        refine (R1.out _).mono ?_
        rintro e w4 ⟨rfl, rfl⟩
        go_wp2_with fail
        refine (N2.out _).mono ?_
        rintro e w5 ⟨rfl, rfl⟩
        go_wp2_with fail
        refine (N3.out _).mono ?_
        rintro e w6 ⟨rfl, rfl⟩
        go_wp2_with fail
        refine (R3.out _).mono ?_
        rintro e w7 ⟨rfl, rfl⟩
        go_wp2
        go_ret
        exact ⟨rfl, HB4.out⟩

set_option maxRecDepth 100000 in
theorem lifted (os : Os) (started : os.Started) (H : Type) (enc : TypeId × Value → H) :
    ReturnsInHanded {} Try.checked os 3 .any (Rows.goodsNamesSpec.pre6 enc Try.prog Try.f3 Rows.goodsNamesRow.domain false) (Rows.goodsNamesSpec.post enc Try.prog Try.f3 false true false false) := by
  refine returnsInHanded_of_change (C := Try.checked) own started (by kernel_rfl) Try.func3
    (ChangeSpec.witness6 (enc := enc) (C := Try.checked) false ⟨#[], #[.string ⟨#[]⟩, .int .i64 0, .int .i64 0, .int .u8 0], []⟩ 8 (by kernel_rfl) (by kernel_rfl) (by kernel_rfl) (by kernel_rfl)) ?_
  intro W base args ds gs before hval0 hW hcnd _
  have hval : ∀ (j : Nat) t v, Try.f3.params[j]? = some t → args[j]? = some v → Value.okWide Try.prog W .any base t v := hval0
  have hW' := hW
  obtain ⟨p, q, hA0, hV, rfl, hfz, hnd⟩ := hW
  have hA : DataW.TrodAll enc Try.prog W 0 (fun _ => true) true Try.f3.params.toList args.toList ds p := hA0
  rw [Try.params3] at hA hval
  obtain ⟨v0, vs0, d0, ds0, p0, q0, hargs, rfl, rfl, h0, r0⟩ := trodAll_cons hA
  obtain ⟨v1, vs1, d1, ds1, p1, q1, rfl, rfl, rfl, h1, r1⟩ := trodAll_cons r0
  obtain ⟨v2, vs2, d2, ds2, p2, q2, rfl, rfl, rfl, h2, r2⟩ := trodAll_cons r1
  obtain ⟨v3, vs3, d3, ds3, p3, q3, rfl, rfl, rfl, h3, r3⟩ := trodAll_cons r2
  obtain ⟨rfl, rfl, rfl⟩ := trodAll_nil r3
  obtain rfl : args = #[v0, v1, v2, v3] := by cases args; simp_all
  obtain ⟨s0, rfl, _, _, u0⟩ := Go.ChangeMaps.open_string Try.underlying9 (hval 0 9 v0 rfl rfl) h0
  obtain ⟨a1, rfl, _, _, w1⟩ := open_int Try.underlying3 (hval 1 3 v1 rfl rfl) h1
  obtain ⟨a2, rfl, _, _, w2⟩ := open_int Try.underlying3 (hval 2 3 v2 rfl rfl) h2
  obtain ⟨a3, rfl, _, _, w3⟩ := open_int Try.underlying5 (hval 3 5 v3 rfl rfl) h3
  refine (walk W s0 u0 a1 w1 a2 w2 a3 w3).mono fun e W' ⟨he, hb⟩ => ?_
  subst he
  exact ⟨_, rfl, Hk.closeLaw (tb := 4) (by kernel_rfl) (by kernel_rfl) rfl rfl rfl Try.underlying4 hW' hb⟩

theorem over : Rows.goodsNamesRow.holds Try.pinned (OpenSpec.ofChange Rows.goodsNamesSpec) :=
  OpenClaim.holds_of_wide 3 Try.f3 rfl rfl rfl rfl rfl rfl rfl ⟨rfl, rfl, rfl, rfl, rfl⟩ rfl rfl rfl rfl rfl (by kernel_rfl) Try.func3 (by kernel_rfl)
    (of_decide_eq_true (by kernel_rfl)) (by unfold Func.isWrapper; first | (rw [if_pos (by decide +kernel)]; kernel_rfl) | (rw [if_neg (by decide +kernel)]; exact ⟨rfl, rfl⟩))
    (fun os started H enc _ => lifted os started H enc)

/-- The statement. -/
theorem proved : Rows.GoodsNamesSaid :=
  over
end Go.Proofs.Ytabfnkjdfninhaa.goodsNames
