/- P2.2: the order of any ranks, up to three hundred, is the document's, and what is handed in stays, with the room behind it; for every slice of int64. No conditions. -/
import Derived.Test.YtmggfeacjndflaaQuI
import Derived.Test.YtmggfeacjndflaaHlB
import Derived.Test.YtmggfeacjndflaaKitC
namespace Go.Proofs.Ytmggfeacjndflaa.queueOrders
open Go.ChangeShapes Go.WideShapes Go.ChangeAt Go.RowKit
set_option linter.unusedVariables false

theorem own : ownKnob Try.prog.godebug = none := by kernel_rfl

theorem long (w : World) (A : Option Addr) (n c : Nat) (hn : n ≤ 9223372036854775807) (hl : 300 < n) :
    Calls Try.prog 4 #[.slice A n c] w fun e w' => e = .returned (.bool true) ∧ Below w.heap.size w w' := by
  have h1 : (300 : Int) < (n : Int) := by omega
  go_enter Try.func4, Try.ntmps4
  go_wp2_with fail
  refine (Qu.awake_any _).mono ?_
  rintro e w1 ⟨rfl, hb⟩
  go_wp2
  go_ret
  exact ⟨rfl, hb⟩

set_option maxHeartbeats 1000000 in
theorem short (w : World) (A : Option Addr) (n c : Nat) (f : Nat → Int) (ha : Hl.Ints w w.heap.size A n f) (hA : A = none → n = 0 ∧ c = 0) (hl : n ≤ 300) :
    Calls Try.prog 4 #[.slice A n c] w fun e w' => e = .returned (.bool true) ∧ Below w.heap.size w w' := by
  have h1 : (n : Int) ≤ 300 := by omega
  have HO := Lib.hid (Hl.own_int64 A n c f 71 w ha hA (by omega))
  have HA := Lib.hid ha
  clear ha hA
  go_enter Try.func4, Try.ntmps4
  go_wp2_with fail
  refine HO.out.mono ?_
  rintro e w1 ⟨g, rfl, hg, hF, hB⟩
  have HF := Lib.hid (And.intro hF (And.intro hB hg))
  have hgl : g < w1.heap.size := by
    have := hF 0 (by omega)
    exact World.block_lt_of_cell? w1 _ this
  have HG := Lib.hid hgl
  clear hF hB hg hgl
  go_wp2_with fail
  refine (Qu.awake_any _).mono ?_
  rintro e w2 ⟨rfl, hb2⟩
  have HF2 := Lib.hid (And.intro (HF.out.1.below hb2 HG.out) (HF.out.2.1.trans (hb2.mono HF.out.2.1.size)))
  have HS2 := Lib.hid hb2.size
  clear hb2
  go_wp2_with fail
  refine (Qu.order_told _ n _ f w2 HF2.out.1.ints (by omega)).mono ?_
  rintro e w3 ⟨A3, c3, rfl, hi3, hb3⟩
  have HF3 := Lib.hid (And.intro (HF2.out.1.below hb3 (by have := HG.out; have := HS2.out; omega)) (HF2.out.2.trans (hb3.mono HF2.out.2.size)))
  have HI3 := Lib.hid hi3
  have HS3 := Lib.hid hb3.size
  clear hi3 hb3
  go_wp2_with fail
  refine (Qu.ref_told _ n c f w3 ((HA.out.below HF3.out.2 (Nat.le_refl _)).size) (by omega)).mono ?_
  rintro e w4 ⟨A4, c4, rfl, hi4, hb4⟩
  have HF4 := Lib.hid (And.intro (HF3.out.1.below hb4 (by have := HG.out; have := HS2.out; have := HS3.out; omega)) (HF3.out.2.trans (hb4.mono HF3.out.2.size)))
  have HP := Lib.hid (Hl.plain_int A3 A4 n n c3 c4 _ _ w4.heap.size w4 ((HI3.out.below hb4 (Nat.le_refl _)).size) hi4 (by unfold maxLen; omega) (by unfold maxLen; omega))
  rw [Hl.eqB_yes (fun k hk => rfl)] at HP
  have HS4 := Lib.hid hb4.size
  clear hi4 hb4
  go_wp2_with fail
  refine HP.out.mono ?_
  rintro e w5 ⟨rfl, hD⟩
  have hB5 := HF4.out.2.trans ((hD.below w4.heap.size).mono HF4.out.2.size)
  have hK := Hl.kept_int64 A g n c f 71 w5 (HF4.out.1.below (hD.below w4.heap.size) (by have := HG.out; have := HS2.out; have := HS3.out; have := HS4.out; omega)) ((HA.out.below hB5 (Nat.le_refl _)).size) (by omega)
  have HK := Lib.hid (And.intro hK hB5)
  clear hD hB5 hK
  go_wp2_with fail
  refine HK.out.1.mono ?_
  rintro e w6 ⟨rfl, hD⟩
  have HB6 := Lib.hid (HK.out.2.trans ((hD.below w5.heap.size).mono HK.out.2.size))
  clear hD
  go_wp2
  go_ret
  exact ⟨rfl, HB6.out⟩

theorem walk (w : World) (A : Option Addr) (n c : Nat) (f : Nat → Int) (ha : Hl.Ints w w.heap.size A n f) (hn : n ≤ 9223372036854775807) (hf : ∀ k, k < n → -9223372036854775808 ≤ f k ∧ f k ≤ 9223372036854775807) (hA : A = none → n = 0 ∧ c = 0) :
    Calls Try.prog 4 #[.slice A n c] w fun e w' => e = .returned (.bool true) ∧ Below w.heap.size w w' := by
  by_cases hl : 300 < n
  · exact long w A n c hn hl
  · exact short w A n c f ha hA (by omega)


set_option maxRecDepth 100000 in
theorem lifted (os : Os) (started : os.Started) (H : Type) (enc : TypeId × Value → H) :
    ReturnsInHanded {} Try.checked os 4 .any (Rows.queueOrdersSpec.pre6 enc Try.prog Try.f4 Rows.queueOrdersRow.domain false) (Rows.queueOrdersSpec.post enc Try.prog Try.f4 false true false false) := by
  refine returnsInHanded_of_change (C := Try.checked) own started (by kernel_rfl) Try.func4
    (ChangeSpec.witness6 (enc := enc) (C := Try.checked) false ⟨#[], #[.slice none 0 0], []⟩ 8 (by kernel_rfl) (by kernel_rfl) (by kernel_rfl) (by kernel_rfl)) ?_
  intro W base args ds gs before hval0 hW hcnd _
  have hval : ∀ (j : Nat) t v, Try.f4.params[j]? = some t → args[j]? = some v → Value.okWide Try.prog W .any base t v := hval0
  have hW' := hW
  obtain ⟨p, q, hA0, hV, rfl, hfz, hnd⟩ := hW
  have hA : DataW.TrodAll enc Try.prog W 0 (fun _ => true) true Try.f4.params.toList args.toList ds p := hA0
  rw [Try.params4] at hA hval
  obtain ⟨v0, vs0, d0, ds0, p0, q0, hargs, rfl, rfl, h0, r0⟩ := trodAll_cons hA
  obtain ⟨rfl, rfl, rfl⟩ := trodAll_nil r0
  obtain rfl : args = #[v0] := by cases args; simp_all
  obtain ⟨A0, n0, c0, f0, rfl, x0, y0, z0, u0⟩ := Hk.open_ints_at Try.underlying34 Try.underlying2 (by kernel_rfl) (hval 0 34 v0 rfl rfl) h0
  refine (walk W A0 n0 c0 f0 x0 y0 z0 u0).mono fun e W' ⟨he, hb⟩ => ?_
  subst he
  exact ⟨_, rfl, Hk.closeLaw (tb := 4) (by kernel_rfl) (by kernel_rfl) rfl rfl rfl Try.underlying4 hW' hb⟩

theorem over : Rows.queueOrdersRow.holds Try.pinned (OpenSpec.ofChange Rows.queueOrdersSpec) :=
  OpenClaim.holds_of_wide 4 Try.f4 rfl rfl rfl rfl rfl rfl rfl ⟨rfl, rfl, rfl, rfl, rfl⟩ rfl rfl rfl rfl rfl (by kernel_rfl) Try.func4 (by kernel_rfl)
    (of_decide_eq_true (by kernel_rfl)) (by unfold Func.isWrapper; first | (rw [if_pos (by decide +kernel)]; kernel_rfl) | (rw [if_neg (by decide +kernel)]; exact ⟨rfl, rfl⟩))
    (fun os started H enc _ => lifted os started H enc)

/-- The statement. -/
theorem proved : Rows.QueueOrdersSaid :=
  over
end Go.Proofs.Ytmggfeacjndflaa.queueOrders
