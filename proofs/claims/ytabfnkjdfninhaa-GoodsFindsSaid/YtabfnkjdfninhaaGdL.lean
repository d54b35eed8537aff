/- Law 10's awake. -/
import Derived.Test.YtabfnkjdfninhaaGdS
import Derived.Test.YtabfnkjdfninhaaGdR
import Derived.Test.YtabfnkjdfninhaaKdB
set_option maxRecDepth 100000

set_option linter.unusedVariables false
namespace Go.Proofs.Ytabfnkjdfninhaa.Gd
open Go.ChangeShapes Go.WideShapes Go.ChangeAt Go.RowKit
open It (Itm kItem row_item row_ok item_rep)
open Kd (Row Fit Cells)

def awakeL : List Itm := [⟨⟨#[97]⟩, ⟨#[120]⟩, 5, false⟩, ⟨⟨#[98]⟩, ⟨#[120]⟩, 0, false⟩]

theorem name_a1 : Sr.name ⟨#[97, 45, 49]⟩ = true := by decide +kernel

theorem name_A : Sr.name ⟨#[65]⟩ = false := by decide +kernel

theorem awake_good : goodB awakeL = true := goodB_yes ⟨by decide, fun i x y hx hy => by
  have hl := (List.getElem?_eq_some_iff.1 hy).1
  have h0 : i = 0 := by simp [awakeL] at hl; omega
  subst h0
  simp [awakeL] at hx hy
  subst hx hy
  decide +kernel, fun i x hx => by
  have hl := (List.getElem?_eq_some_iff.1 hx).1
  obtain h0 | h0 : i = 0 ∨ i = 1 := by simp [awakeL] at hl; omega
  · subst h0
    simp [awakeL] at hx
    subst hx
    decide +kernel
  · subst h0
    simp [awakeL] at hx
    subst hx
    decide +kernel⟩

theorem awake_b : find ⟨#[98]⟩ awakeL = 1 := by decide +kernel

theorem awake_c : find ⟨#[99]⟩ awakeL = -1 := by decide +kernel

theorem awake_cells (w : World) (F : Nat → Prop) : Cells kItem w F awakeL [.string ⟨#[97]⟩, .string ⟨#[120]⟩, .int .i64 5, .bool false, .string ⟨#[98]⟩, .string ⟨#[120]⟩, .int .i64 0, .bool false] :=
  ⟨_, _, rfl, item_rep.2 ⟨rfl, by decide, by decide, by decide, by decide⟩, _, _, rfl, item_rep.2 ⟨rfl, by decide, by decide, by decide, by decide⟩, rfl⟩

set_option maxHeartbeats 1000000 in
theorem awake_any (w : World) : Calls Try.prog 10 #[] w fun e w' => e = .returned (.bool true) ∧ Below w.heap.size w w' := by
  have N1 := Lib.hid (fun W => name_any ⟨#[97, 45, 49]⟩ W (by decide))
  have N2 := Lib.hid (fun W => name_any ⟨#[65]⟩ W (by decide))
  rw [name_a1] at N1
  rw [name_A] at N2
  obtain ⟨w1, hw1⟩ : ∃ w1, w.alloc (.cells #[.string ⟨#[97]⟩, .string ⟨#[120]⟩, .int .i64 5, .bool false, .string ⟨#[98]⟩, .string ⟨#[120]⟩, .int .i64 0, .bool false] 32) = w1 := ⟨_, rfl⟩
  have hb1 : Below w.heap.size w w1 := by rw [← hw1]; exact (Below.refl _ _).alloc (Nat.le_refl _) _
  have hs1 : w1.heap.size = w.heap.size + 1 := by rw [← hw1]; simp
  have hr : Row kItem w1 (· < w1.heap.size) (some ⟨w.heap.size, 0, none⟩) 2 awakeL := Kd.row_blk (E := 32) (by rw [← hw1]; exact Qu.Blk.new w _ _) (awake_cells _ _) rfl (by omega)
  have HR := Lib.hid (fun W (hW : Below w1.heap.size w1 W) => right_any (some ⟨w.heap.size, 0, none⟩) 2 2 awakeL (· < w1.heap.size) W (hr.below hW (Nat.le_refl _)) (fun b hb => Nat.lt_of_lt_of_le hb hW.size) (by omega))
  have HF := Lib.hid (fun s W (hW : Below w1.heap.size w1 W) => find_any (some ⟨w.heap.size, 0, none⟩) 2 2 awakeL s (· < w1.heap.size) W (hr.below hW (Nat.le_refl _)) (fun b hb => Nat.lt_of_lt_of_le hb hW.size) (by omega) (by omega))
  have HB1 := Lib.hid hb1
  rw [awake_good] at HR
  have hfb := HF.out ⟨#[98]⟩
  rw [awake_b] at hfb
  have hfc := HF.out ⟨#[99]⟩
  rw [awake_c] at hfc
  have HFB := Lib.hid hfb
  have HFC := Lib.hid hfc
  have HS := Lib.hid (Nat.le_of_lt (show w.heap.size < w1.heap.size by omega))
  clear hb1 hs1 hr hfb hfc HF
  go_enter Try.func10, Try.ntmps10
  go_wp2_with fail
  refine (N1.out _).mono ?_
  rintro e w2 ⟨rfl, rfl⟩
  go_wp2_with fail
  refine (N2.out _).mono ?_
  rintro e w3 ⟨rfl, rfl⟩
  go_wp2_with fail
  refine (HR.out _ (Below.refl _ _)).mono ?_
  rintro e w4 ⟨rfl, hb4⟩
  have HB4 := Lib.hid hb4
  clear hb4
  go_wp2_with fail
  refine (HFB.out _ HB4.out).mono ?_
  rintro e w5 ⟨rfl, hb5⟩
  have HB5 := Lib.hid (Hk.andThen HB4.out hb5)
  clear hb5
  go_wp2_with fail
  refine (HFC.out _ HB5.out).mono ?_
  rintro e w6 ⟨rfl, hb6⟩
  have HB6 := Lib.hid (HB1.out.trans ((Hk.andThen HB5.out hb6).mono HS.out))
  clear hb6
  go_wp2
  go_ret
  exact ⟨rfl, HB6.out⟩

end Go.Proofs.Ytabfnkjdfninhaa.Gd
