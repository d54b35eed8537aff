/- What every statement of layer 2 asks first: the program is awake. -/
import Derived.Test.YtmggfeacjndflaaQuH
namespace Go.Proofs.Ytmggfeacjndflaa.Qu
open Go.ChangeShapes Go.WideShapes Go.ChangeAt Go.RowKit
set_option linter.unusedVariables false

theorem nums_eq (l : List Pt) : nums l = (l.map (·.2)).map (Value.int .i64) := by simp [nums]

theorem ints_blk {w : World} {g t n : Nat} {cs : Array Value} {l : List Int} (h : Blk w g t cs) (hc : cs.toList = l.map (Value.int .i64)) (hn : n = l.length) : Hl.Ints w w.heap.size (some ⟨g, 0, none⟩) n (Hl.at_ l) := fun k hk => by
  refine ⟨g, 0, rfl, h.lt, ?_⟩
  subst hn
  rw [Nat.zero_add, h.cell k, ← Array.getElem?_toList, hc]
  unfold Hl.at_
  simp [hk]

def Told (e : Ending) (w w' : World) (n : Nat) (l : List Int) : Prop := ∃ A c, e = .returned (.slice A n c) ∧ Hl.Ints w' w'.heap.size A n (Hl.at_ l) ∧ Below w.heap.size w w'

theorem order_told (A : Option Addr) (n cap : Nat) (f : Nat → Int) (w : World) (ha : Hl.Ints w w.heap.size A n f) (hn : n ≤ 900000000) :
    Calls Try.prog 18 #[.slice A n cap] w fun e w' => Told e w w' n ((ord f n).map (·.2)) :=
  (order_any A n cap f w ha hn).mono fun e w' ⟨A', c, he, hown, hb⟩ => ⟨A', c, he, by rw [nums_eq] at hown; exact Hl.Ints.own hown, hb⟩

theorem awake_eq : Hl.eqB 3 3 (Hl.at_ ((ord (Hl.at_ [3, 7, 3]) 3).map (·.2))) (Hl.at_ [1, 0, 2]) = true := by decide +kernel

theorem awake_any (w : World) : Calls Try.prog 10 #[] w fun e w' => e = .returned (.bool true) ∧ Below w.heap.size w w' := by
  go_enter Try.func10, Try.ntmps10
  go_wp2_with fail
  refine (queue_new w.heap.size w (Nat.le_refl _)).mono ?_
  rintro e w1 ⟨rfl, hQ, hB, hS⟩
  have HP := Lib.hid (push_any (3, 1) w.heap.size w.heap.size none [] w1 hQ (by simp))
  have HQ := Lib.hid (And.intro hQ hB)
  clear hQ hB hS
  go_wp2_with fail
  refine HP.out.mono ?_
  rintro e w2 ⟨rfl, r', hQ2, hM2, hF⟩
  have HP2 := Lib.hid (pop_some w.heap.size w.heap.size r' (3, 1) [] w2 hQ2 (by simp))
  have HB2 := Lib.hid (HQ.out.2.trans (HQ.out.1.toBelow hM2))
  have HQ2 := Lib.hid hQ2
  clear hQ2 hM2 hF
  go_wp2_with fail
  refine HP2.out.mono ?_
  rintro e w3 ⟨rfl, hQ3, hM3⟩
  have HB3 := Lib.hid (HB2.out.trans (HQ2.out.toBelow hM3))
  clear hQ3 hM3
  go_wp2_with fail
  refine (order_told _ 3 3 (Hl.at_ [3, 7, 3]) _ (ints_blk (Blk.new _ _ _) rfl rfl) (by omega)).mono ?_
  rintro e w4 ⟨A, c, rfl, hi, hb⟩
  have HI := Lib.hid (hi.below (B := w4.heap.size) ((Below.refl _ _).alloc (Nat.le_refl _) (.cells #[.int .i64 1, .int .i64 0, .int .i64 2] 3)) (Nat.le_refl _))
  have HB4 := Lib.hid ((HB3.out.alloc HB3.out.size _).trans (hb.mono (by have := HB3.out.size; simp; omega)))
  clear hi hb
  go_wp2_with fail
  refine (Hl.plain_int A _ 3 3 c 3 _ (Hl.at_ [1, 0, 2]) _ _ (HI.out.more ?_) (ints_blk (Blk.new _ _ _) rfl rfl) (by decide) (by decide)).mono ?_
  · simp
  rintro e w5 ⟨rfl, hD⟩
  have HF := Lib.hid ((HB4.out.alloc HB4.out.size (.cells #[.int .i64 1, .int .i64 0, .int .i64 2] 3)).trans (hD.below _))
  clear hD
  go_wp2
  go_ret
  refine ⟨?_, HF.out⟩
  rw [awake_eq]
  rfl

end Go.Proofs.Ytmggfeacjndflaa.Qu
