/- P5.1: with its own sum behind it, the lowest byte first, whatever was summed, up to a thousand bytes, has one sum; for every slice of bytes. No conditions. -/
import Derived.Test.YtipjcmkfgfcoiaaCrL
import Derived.Test.YtipjcmkfgfcoiaaByB
import Derived.Test.YtipjcmkfgfcoiaaKitC
namespace Go.Proofs.Ytipjcmkfgfcoiaa.crcEnds
open Go.ChangeShapes Go.WideShapes Go.ChangeAt Go.RowKit
set_option linter.unusedVariables false

theorem own : ownKnob Try.prog.godebug = none := by kernel_rfl

theorem long (w : World) (A : Option Addr) (n c : Nat) (hn : n ≤ 9223372036854775807) (hl : 1000 < n) :
    Calls Try.prog 7 #[.slice A n c] w fun e w' => e = .returned (.bool true) ∧ Below w.heap.size w w' := by
  have h1 : (1000 : Int) < (n : Int) := by omega
  go_enter Try.func7, Try.ntmps7
  go_wp2_with fail
  refine (Cr.awake_any _).mono ?_
  rintro e w1 ⟨rfl, hb⟩
  go_wp2
  go_ret
  exact ⟨rfl, hb⟩

theorem b4_cells (s : Nat) (hs : s < 4294967296) : #[Value.int .u8 ((s : Int) % 256), .int .u8 ((s : Int) / 256 % 256), .int .u8 ((s : Int) / 65536 % 256), .int .u8 ((s : Int) / 16777216)] = (By.cellsB (Cr.b4 s)).toArray := by
  unfold By.cellsB Cr.b4
  simp only [List.map_cons, List.map_nil]
  rw [By.toNat_small (by omega), By.toNat_small (by omega), By.toNat_small (by omega), By.toNat_small (by omega)]
  have e0 : ((s % 256 : Nat) : Int) = (s : Int) % 256 := by omega
  have e1 : ((s / 256 % 256 : Nat) : Int) = (s : Int) / 256 % 256 := by omega
  have e2 : ((s / 65536 % 256 : Nat) : Int) = (s : Int) / 65536 % 256 := by omega
  have e3 : ((s / 16777216 % 256 : Nat) : Int) = (s : Int) / 16777216 := by omega
  rw [e0, e1, e2, e3]

theorem sum_nil : Cr.sum [] = 0 := by decide +kernel

set_option maxHeartbeats 2000000 in
theorem short (w : World) (A : Option Addr) (n c : Nat) (l : List UInt8) (hy : By.Bys w w.heap.size A n l) (hA : A = none → n = 0 ∧ c = 0) (hl : n ≤ 1000) :
    Calls Try.prog 7 #[.slice A n c] w fun e w' => e = .returned (.bool true) ∧ Below w.heap.size w w' := by
  obtain ⟨i0, hi0, hz0, hz1, hz2⟩ := info_parts By.info_u8
  have h1 : ¬ (1000 : Int) < (n : Int) := by omega
  have HY := Lib.hid hy
  have HA := Lib.hid hA
  have HLL := Lib.hid hy.len
  obtain ⟨s, hs⟩ : ∃ s, Cr.sum l = s := ⟨_, rfl⟩
  have HS := Lib.hid hs
  have s1 : (s : Int) ≤ 4294967295 := by have := Cr.more_lt 0 l; unfold Cr.sum at hs; omega
  have s0 : (0 : Int) ≤ (s : Int) := by omega
  have H1 := Lib.hid (Cr.sum_any n c w.heap.size A l w hy (by omega))
  have HC := Lib.hid (b4_cells s (by omega))
  clear hy hA hs
  go_enter Try.func7, Try.ntmps7
  go_wp2_with fail
  refine H1.out.mono ?_
  rintro e w1 ⟨rfl, hb⟩
  have HB1 := Lib.hid hb
  rw [HS.out]
  have hws := hb.size
  clear hb H1
  go_wp2_with ((at_builtin; refine By.wpList_append_bytes _ rfl _ _ 23 rfl w1.heap.size 5 i0 Try.underlying23 hi0 hz0 hz1 hz2 (.slice none 0 0) 0 [] rfl (World.ownsRow_nil _ _ _ _) w.heap.size A n c l rfl (HY.out.below HB1.out (Nat.le_refl _)) HA.out (by omega) (Nat.le_refl _) ?_; intro v' w2 hown hgrow hfr; rw [Nat.zero_add, List.nil_append] at hown; have hb2 : Below w1.heap.size w1 w2 := (Below.refl _ _).grown hgrow (Nat.le_refl _) (fun g hg => by cases hg); have HO := Lib.hid (And.intro hown hb2); have hws2 := hb2.size; clear hown hgrow hfr hb2; go_wp2_with ((at_builtin; refine By.wpList_append_bytes _ rfl _ _ 23 rfl w1.heap.size 5 i0 Try.underlying23 hi0 hz0 hz1 hz2 v' n l rfl (World.ownsRow.alloc HO.out.1 _) _ (some ⟨w2.heap.size, 0, none⟩) 4 4 (Cr.b4 s) rfl (By.Bys.blk (Qu.Blk.new w2 _ _) HC.out rfl) (by simp) (by omega) (by simp; omega) ?_; intro v2 w3 hown hgrow hfr))))
  obtain ⟨A3, c3, rfl⟩ := Mv.own_value hown
  have HO3 : Hid (w3.ownsRow w1.heap.size 5 1 (.slice A3 (n + 4) c3) (n + 4) (By.cellsB (l ++ Cr.b4 s)) ∧ Below w.heap.size w w3) := Lib.hid ⟨hown, (HB1.out.trans ((HO.out.2.alloc hws2 _).grown hgrow (by simp; omega) (fun g hg => (World.ownsRow.lt HO.out.1 g hg).1) |>.mono hws))⟩
  clear hown hgrow hfr HO HC
  go_wp2_with fail
  refine (Cr.awake_any _).mono ?_
  rintro e w4 ⟨rfl, hb⟩
  have HO4 : Hid (By.Bys w4 w4.heap.size A3 (n + 4) (l ++ Cr.b4 s) ∧ Below w.heap.size w w4) := Lib.hid ⟨((By.Bys.own HO3.out.1).below hb (Nat.le_refl _)).size, HO3.out.2.trans (hb.mono HO3.out.2.size)⟩
  clear hb HO3
  go_wp2_with fail
  refine (Cr.sum_any (n + 4) c3 _ A3 _ w4 HO4.out.1 (by omega)).mono ?_
  rintro e w5 ⟨rfl, hb⟩
  have HB5 := Lib.hid (HO4.out.2.trans (hb.mono HO4.out.2.size))
  have hws5 := HB5.out.size
  have e1 : Cr.sum (l ++ Cr.b4 s) = Cr.sum [0, 0, 0, 0] := by rw [← HS.out]; exact Cr.sum_ends l
  rw [e1]
  clear hb HO4 e1
  go_wp2_with fail
  refine (Cr.sum_any 4 4 _ _ [0, 0, 0, 0] _ (By.Bys.blk (Qu.Blk.new w5 _ _) rfl rfl) (by omega)).mono ?_
  rintro e w6 ⟨rfl, hb⟩
  have HB6 := Lib.hid ((HB5.out.alloc hws5 (.cells #[.int .u8 0, .int .u8 0, .int .u8 0, .int .u8 0] 5)).trans (hb.mono (by simp; omega)))
  generalize Cr.sum [0, 0, 0, 0] = z
  clear hb HB5
  go_wp2_with fail
  refine (Cr.sum_any 0 0 0 none [] w6 (By.Bys.nil _ _ _) (by omega)).mono ?_
  rintro e w7 ⟨rfl, hb⟩
  have HB7 := Lib.hid (HB6.out.trans (hb.mono HB6.out.size))
  rw [sum_nil]
  clear hb HB6
  go_wp2
  go_ret
  exact ⟨rfl, HB7.out⟩

theorem walk (w : World) (A : Option Addr) (n c : Nat) (l : List UInt8) (hy : By.Bys w w.heap.size A n l) (hn : n ≤ 9223372036854775807) (hA : A = none → n = 0 ∧ c = 0) :
    Calls Try.prog 7 #[.slice A n c] w fun e w' => e = .returned (.bool true) ∧ Below w.heap.size w w' := by
  by_cases h : 1000 < n
  · exact long w A n c hn h
  · exact short w A n c l hy hA (by omega)


set_option maxRecDepth 100000 in
theorem lifted (os : Os) (started : os.Started) (H : Type) (enc : TypeId × Value → H) :
    ReturnsInHanded {} Try.checked os 7 .any (Rows.crcEndsSpec.pre6 enc Try.prog Try.f7 Rows.crcEndsRow.domain false) (Rows.crcEndsSpec.post enc Try.prog Try.f7 false true false false) := by
  refine returnsInHanded_of_change (C := Try.checked) own started (by kernel_rfl) Try.func7
    (ChangeSpec.witness6 (enc := enc) (C := Try.checked) false ⟨#[], #[.slice none 0 0], []⟩ 8 (by kernel_rfl) (by kernel_rfl) (by kernel_rfl) (by kernel_rfl)) ?_
  intro W base args ds gs before hval0 hW hcnd _
  have hval : ∀ (j : Nat) t v, Try.f7.params[j]? = some t → args[j]? = some v → Value.okWide Try.prog W .any base t v := hval0
  have hW' := hW
  obtain ⟨p, q, hA0, hV, rfl, hfz, hnd⟩ := hW
  have hA : DataW.TrodAll enc Try.prog W 0 (fun _ => true) true Try.f7.params.toList args.toList ds p := hA0
  rw [Try.params7] at hA hval
  obtain ⟨v0, vs0, d0, ds0, p0, q0, hargs, rfl, rfl, h0, r0⟩ := trodAll_cons hA
  obtain ⟨rfl, rfl, rfl⟩ := trodAll_nil r0
  obtain rfl : args = #[v0] := by cases args; simp_all
  obtain ⟨A0, n0, c0, l0, rfl, x0, y0, z0, u0⟩ := Hk.open_bytes Try.underlying23 Try.underlying5 (by kernel_rfl) (hval 0 23 v0 rfl rfl) h0
  refine (walk W A0 n0 c0 l0 x0 y0 z0).mono fun e W' ⟨he, hb⟩ => ?_
  subst he
  exact ⟨_, rfl, Hk.closeLaw (tb := 4) (by kernel_rfl) (by kernel_rfl) rfl rfl rfl Try.underlying4 hW' hb⟩

theorem over : Rows.crcEndsRow.holds Try.pinned (OpenSpec.ofChange Rows.crcEndsSpec) :=
  OpenClaim.holds_of_wide 7 Try.f7 rfl rfl rfl rfl rfl rfl rfl ⟨rfl, rfl, rfl, rfl, rfl⟩ rfl rfl rfl rfl rfl (by kernel_rfl) Try.func7 (by kernel_rfl)
    (of_decide_eq_true (by kernel_rfl)) (by unfold Func.isWrapper; first | (rw [if_pos (by decide +kernel)]; kernel_rfl) | (rw [if_neg (by decide +kernel)]; exact ⟨rfl, rfl⟩))
    (fun os started H enc _ => lifted os started H enc)

/-- The statement. -/
theorem proved : Rows.CrcEndsSaid :=
  over
end Go.Proofs.Ytipjcmkfgfcoiaa.crcEnds
