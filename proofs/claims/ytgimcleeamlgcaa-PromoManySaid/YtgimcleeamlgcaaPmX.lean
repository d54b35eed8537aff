/- Law 12's awake. -/
import Derived.Test.YtgimcleeamlgcaaPmW
import Derived.Test.YtgimcleeamlgcaaHpA
import Derived.Deep.RegionHeld3
set_option maxRecDepth 100000

set_option linter.unusedVariables false
namespace Go.Proofs.Ytgimcleeamlgcaa.Pm
open Go.ChangeShapes Go.WideShapes Go.ChangeAt Go.RowKit
open Ap (Scp Prt Tir Prm kPrm kPrt row_Prm row_Prt)
open Kd (Row Lst kStr kInt Own Cells Fit eqL)
open Pr (promoB headB kindB PrmSmall PartsSmall orderTo nth bef)

/-- A promotion of so much off, of an Id; one of nothing. -/
def plainP (i : ByteArray) : Prm := ⟨i, 1, 5, ⟨#[]⟩, ⟨#[]⟩, false, ⟨[], []⟩, 0, 100, 0, 0, 0, [], []⟩

def zeroP : Prm := ⟨⟨#[]⟩, 0, 0, ⟨#[]⟩, ⟨#[]⟩, false, ⟨[], []⟩, 0, 0, 0, 0, 0, [], []⟩

def noLay : Prm.Lay := ⟨⟨⟨none, 0, 0⟩, ⟨none, 0, 0⟩⟩, ⟨none, 0, 0⟩, ⟨none, 0, 0⟩⟩

theorem fit_none : Fit none 0 0 := ⟨fun _ => ⟨rfl, rfl⟩, Nat.le_refl _, by omega⟩

theorem plain_holds (i : ByteArray) (hi : i.size ≤ maxLen) {w : World} {F : Nat → Prop} : Ap.Prm.Holds w F (plainP i) noLay :=
  ⟨hi, by show (_ : Int) ≤ 1 ∧ (1 : Int) ≤ _; omega, by show (_ : Int) ≤ 5 ∧ (5 : Int) ≤ _; omega, by show 0 ≤ maxLen; unfold maxLen; omega, by show 0 ≤ maxLen; unfold maxLen; omega, ⟨⟨Row.nil _ _ _ _, fit_none⟩, ⟨Row.nil _ _ _ _, fit_none⟩⟩, by show (_ : Int) ≤ 0 ∧ (0 : Int) ≤ _; omega, by show (_ : Int) ≤ 100 ∧ (100 : Int) ≤ _; omega, by show (_ : Int) ≤ 0 ∧ (0 : Int) ≤ _; omega, by show (_ : Int) ≤ 0 ∧ (0 : Int) ≤ _; omega, by show (_ : Int) ≤ 0 ∧ (0 : Int) ≤ _; omega, ⟨Row.nil _ _ _ _, fit_none⟩, ⟨Row.nil _ _ _ _, fit_none⟩⟩

theorem zero_holds {w : World} {F : Nat → Prop} : Ap.Prm.Holds w F zeroP noLay :=
  ⟨by show 0 ≤ maxLen; unfold maxLen; omega, by show (_ : Int) ≤ 0 ∧ (0 : Int) ≤ _; omega, by show (_ : Int) ≤ 0 ∧ (0 : Int) ≤ _; omega, by show 0 ≤ maxLen; unfold maxLen; omega, by show 0 ≤ maxLen; unfold maxLen; omega, ⟨⟨Row.nil _ _ _ _, fit_none⟩, ⟨Row.nil _ _ _ _, fit_none⟩⟩, by show (_ : Int) ≤ 0 ∧ (0 : Int) ≤ _; omega, by show (_ : Int) ≤ 0 ∧ (0 : Int) ≤ _; omega, by show (_ : Int) ≤ 0 ∧ (0 : Int) ≤ _; omega, by show (_ : Int) ≤ 0 ∧ (0 : Int) ≤ _; omega, by show (_ : Int) ≤ 0 ∧ (0 : Int) ≤ _; omega, ⟨Row.nil _ _ _ _, fit_none⟩, ⟨Row.nil _ _ _ _, fit_none⟩⟩

theorem plain_slight (i : ByteArray) : Slight (plainP i) := ⟨by show 0 ≤ _; omega, by show 0 ≤ _; omega, fun k q hq => by unfold plainP at hq; simp at hq, by show 0 ≤ _; omega, by show 0 ≤ _; omega⟩

theorem zero_slight : Slight zeroP := ⟨by show 0 ≤ _; omega, by show 0 ≤ _; omega, fun k q hq => by unfold zeroP at hq; simp at hq, by show 0 ≤ _; omega, by show 0 ≤ _; omega⟩

theorem blank_none : Pr.blankB ⟨#[]⟩ = true := by
  unfold Pr.blankB
  rw [ByteArray.toList_eq]; rfl

theorem scope_none : Sc.scopeB ⟨[], []⟩ = true := by
  have h : Sc.namesB [] 20 = true := Sc.namesB_yes ⟨by simp, fun i x hx => by simp at hx, fun i x y hx => by simp at hx⟩
  unfold Sc.scopeB
  rw [h]; rfl

theorem plain_yes {i : ByteArray} (h : Sr.name i = true) : promoB (plainP i) = true := by
  have h1 : headB (plainP i) = true := by
    rw [Pr.headB_def]
    show (Sr.name i && decide ((1 : Int) ≤ 1) && decide ((1 : Int) ≤ 7) && decide ((0 : Int) ≤ 5) && decide ((5 : Int) ≤ 1000) && Pr.blankB ⟨#[]⟩ && Pr.blankB ⟨#[]⟩ && Sc.scopeB ⟨[], []⟩ && Pr.inB 0 10000000000000) = true
    rw [h, blank_none, scope_none]; rfl
  unfold promoB
  rw [h1]
  unfold kindB
  rw [if_pos (show (plainP i).kind = 1 from rfl)]
  rfl

theorem zero_no : promoB zeroP = false := by
  unfold promoB
  rw [Pr.headB_def]
  have h : Sr.name zeroP.id = false := Sr.name_none (by show 0 < 1; omega)
  rw [h]; rfl

theorem name_a : Sr.name ⟨#[97]⟩ = true := by decide +kernel
theorem name_b : Sr.name ⟨#[98]⟩ = true := by decide +kernel
theorem name_c : Sr.name ⟨#[99]⟩ = true := by decide +kernel

def two : List Prm := [plainP ⟨#[98]⟩, plainP ⟨#[97]⟩]

theorem two_get {k : Nat} {p : Prm} (h : two[k]? = some p) : (k = 0 ∧ p = plainP ⟨#[98]⟩) ∨ (k = 1 ∧ p = plainP ⟨#[97]⟩) := by
  match k, h with
  | 0, h => exact .inl ⟨rfl, by injection h with h; exact h.symm⟩
  | 1, h => exact .inr ⟨rfl, by injection h with h; exact h.symm⟩
  | k + 2, h => simp [two] at h

theorem two_slights : Slights two := fun k p h => by
  rcases two_get h with ⟨_, rfl⟩ | ⟨_, rfl⟩ <;> exact plain_slight _

theorem two_yes : promosB two = true := promosB_yes ⟨by decide, fun i p h => by
    rcases two_get h with ⟨_, rfl⟩ | ⟨_, rfl⟩
    · exact plain_yes name_b
    · exact plain_yes name_a, fun i j p q hij hp hq => by
    rcases two_get hp with ⟨h1, rfl⟩ | ⟨h1, rfl⟩
    · rcases two_get hq with ⟨h2, rfl⟩ | ⟨h2, rfl⟩
      · omega
      · show (⟨#[98]⟩ : ByteArray) ≠ ⟨#[97]⟩
        decide
    · rcases two_get hq with ⟨h2, rfl⟩ | ⟨h2, rfl⟩ <;> omega⟩

theorem lt_ab : Sr.lt ⟨#[97]⟩ ⟨#[98]⟩ = true := by
  unfold Sr.lt
  rw [ByteArray.toList_eq, ByteArray.toList_eq]; decide

theorem two_order : orderTo two [] 2 = [1, 0] := by
  refine Pr.sorted_one (l := two) (Pr.orderTo_sorted two [] 2) ?_ fun i => ?_
  · unfold Pr.Sorted
    refine List.pairwise_cons.2 ⟨fun x hx => ?_, List.pairwise_cons.2 ⟨fun x hx => by simp at hx, List.Pairwise.nil⟩⟩
    obtain rfl : x = 0 := by simpa using hx
    refine Pr.bef_ahead ?_
    unfold Pr.aheadB
    rw [if_pos (show (nth two 1).priority = (nth two 0).priority from rfl)]
    exact lt_ab
  · rw [Pr.orderTo_mem]
    have ht : ∀ i, i < 2 → Pr.takenB two [] i = true := fun i hi => by
      unfold Pr.takenB
      have : (nth two i).code = ⟨#[]⟩ := by
        match i, hi with
        | 0, _ => rfl
        | 1, _ => rfl
      rw [this, ByteArray.toList_eq]; rfl
    constructor
    · rintro ⟨h, _⟩
      simp; omega
    · intro h
      have : i < 2 := by simp at h; omega
      exact ⟨this, ht i this⟩

/-- The two, in a block of the call's own. -/
theorem two_row {W : World} : Row kPrm (W.alloc (.cells #[.string ⟨#[98]⟩, .int .i64 1, .int .i64 5, .string ⟨#[]⟩, .string ⟨#[]⟩, .bool false, .slice none 0 0, .slice none 0 0, .int .i64 0, .int .i64 100, .int .i64 0, .int .i64 0, .int .i64 0, .slice none 0 0, .slice none 0 0, .string ⟨#[97]⟩, .int .i64 1, .int .i64 5, .string ⟨#[]⟩, .string ⟨#[]⟩, .bool false, .slice none 0 0, .slice none 0 0, .int .i64 0, .int .i64 100, .int .i64 0, .int .i64 0, .int .i64 0, .slice none 0 0, .slice none 0 0] 28)) (· < (W.alloc (.cells #[.string ⟨#[98]⟩, .int .i64 1, .int .i64 5, .string ⟨#[]⟩, .string ⟨#[]⟩, .bool false, .slice none 0 0, .slice none 0 0, .int .i64 0, .int .i64 100, .int .i64 0, .int .i64 0, .int .i64 0, .slice none 0 0, .slice none 0 0, .string ⟨#[97]⟩, .int .i64 1, .int .i64 5, .string ⟨#[]⟩, .string ⟨#[]⟩, .bool false, .slice none 0 0, .slice none 0 0, .int .i64 0, .int .i64 100, .int .i64 0, .int .i64 0, .int .i64 0, .slice none 0 0, .slice none 0 0] 28)).heap.size) (some ⟨W.heap.size, 0, none⟩) 2 two := by
  have hb := Qu.Blk.new W 28 #[.string ⟨#[98]⟩, .int .i64 1, .int .i64 5, .string ⟨#[]⟩, .string ⟨#[]⟩, .bool false, .slice none 0 0, .slice none 0 0, .int .i64 0, .int .i64 100, .int .i64 0, .int .i64 0, .int .i64 0, .slice none 0 0, .slice none 0 0, .string ⟨#[97]⟩, .int .i64 1, .int .i64 5, .string ⟨#[]⟩, .string ⟨#[]⟩, .bool false, .slice none 0 0, .slice none 0 0, .int .i64 0, .int .i64 100, .int .i64 0, .int .i64 0, .int .i64 0, .slice none 0 0, .slice none 0 0]
  refine Kd.row_blk (cs := [.string ⟨#[98]⟩, .int .i64 1, .int .i64 5, .string ⟨#[]⟩, .string ⟨#[]⟩, .bool false, .slice none 0 0, .slice none 0 0, .int .i64 0, .int .i64 100, .int .i64 0, .int .i64 0, .int .i64 0, .slice none 0 0, .slice none 0 0, .string ⟨#[97]⟩, .int .i64 1, .int .i64 5, .string ⟨#[]⟩, .string ⟨#[]⟩, .bool false, .slice none 0 0, .slice none 0 0, .int .i64 0, .int .i64 100, .int .i64 0, .int .i64 0, .int .i64 0, .slice none 0 0, .slice none 0 0]) hb ?_ rfl hb.lt
  exact ⟨(plainP ⟨#[98]⟩).enc noLay, (plainP ⟨#[97]⟩).enc noLay, rfl, Ap.Prm_rep.2 ⟨noLay, rfl, plain_holds _ (by decide)⟩, (plainP ⟨#[97]⟩).enc noLay, [], rfl, Ap.Prm_rep.2 ⟨noLay, rfl, plain_holds _ (by decide)⟩, rfl⟩

theorem codes_c {W : World} : Row kStr (W.alloc (.cells #[.string ⟨#[99]⟩] 9)) (· < (W.alloc (.cells #[.string ⟨#[99]⟩] 9)).heap.size) (some ⟨W.heap.size, 0, none⟩) 1 [⟨#[99]⟩] := by
  have hb := Qu.Blk.new W 9 #[.string ⟨#[99]⟩]
  exact Kd.row_blk (cs := [.string ⟨#[99]⟩]) hb (Cells.one ⟨rfl, by show (1 : Nat) ≤ maxLen; unfold maxLen; omega⟩) rfl hb.lt

theorem codes_yes : Sc.namesB [⟨#[99]⟩] 4 = true := Sc.namesB_yes ⟨by decide, fun i x hx => by
  have hi := (List.getElem?_eq_some_iff.1 hx).1
  obtain rfl : i = 0 := by simpa using hi
  obtain rfl : (⟨#[99]⟩ : ByteArray) = x := by simpa using hx
  exact name_c, fun i x y hx hy => by
  have hi := (List.getElem?_eq_some_iff.1 hy).1
  simp at hi⟩

theorem one_row2 {W : World} : Row kInt (W.alloc (.cells #[.int .i64 1, .int .i64 0] 3)) (· < (W.alloc (.cells #[.int .i64 1, .int .i64 0] 3)).heap.size) (some ⟨W.heap.size, 0, none⟩) 2 [1, 0] := by
  have hb := Qu.Blk.new W 3 #[.int .i64 1, .int .i64 0]
  exact Kd.row_blk (cs := [.int .i64 1, .int .i64 0]) hb ⟨[.int .i64 1], [.int .i64 0], rfl, ⟨rfl, by omega, by omega⟩, Cells.one ⟨rfl, by omega, by omega⟩⟩ rfl hb.lt

theorem right_b (W : World) : Calls Try.prog 11 #[.agg #[.string ⟨#[98]⟩, .int .i64 1, .int .i64 5, .string ⟨#[]⟩, .string ⟨#[]⟩, .bool false, .slice none 0 0, .slice none 0 0, .int .i64 0, .int .i64 100, .int .i64 0, .int .i64 0, .int .i64 0, .slice none 0 0, .slice none 0 0]] W fun e w' => e = .returned (.bool true) ∧ Below W.heap.size W w' :=
  Fits (promo_any (plainP ⟨#[98]⟩) noLay W (plain_holds _ (by decide)) ((plain_slight _).small (plain_holds (w := W) (F := fun _ => True) _ (by decide)))) (plain_yes name_b)

theorem right_zero (W : World) : Calls Try.prog 11 #[.agg #[.string ⟨#[]⟩, .int .i64 0, .int .i64 0, .string ⟨#[]⟩, .string ⟨#[]⟩, .bool false, .slice none 0 0, .slice none 0 0, .int .i64 0, .int .i64 0, .int .i64 0, .int .i64 0, .int .i64 0, .slice none 0 0, .slice none 0 0]] W fun e w' => e = .returned (.bool false) ∧ Below W.heap.size W w' :=
  Fits (promo_any zeroP noLay W zero_holds (zero_slight.small (zero_holds (w := W) (F := fun _ => True)))) zero_no

theorem alloc_below {W w' : World} {o : Obj} (h : Below (W.alloc o).heap.size (W.alloc o) w') : Below W.heap.size W w' := ((Below.refl _ _).alloc (Nat.le_refl _) o).trans (h.mono (by simp))

theorem all_two (W : World) : Calls Try.prog 19 #[.slice (some ⟨W.heap.size, 0, none⟩) 2 2] (W.alloc (.cells #[.string ⟨#[98]⟩, .int .i64 1, .int .i64 5, .string ⟨#[]⟩, .string ⟨#[]⟩, .bool false, .slice none 0 0, .slice none 0 0, .int .i64 0, .int .i64 100, .int .i64 0, .int .i64 0, .int .i64 0, .slice none 0 0, .slice none 0 0, .string ⟨#[97]⟩, .int .i64 1, .int .i64 5, .string ⟨#[]⟩, .string ⟨#[]⟩, .bool false, .slice none 0 0, .slice none 0 0, .int .i64 0, .int .i64 100, .int .i64 0, .int .i64 0, .int .i64 0, .slice none 0 0, .slice none 0 0] 28)) fun e w' => e = .returned (.bool true) ∧ Below W.heap.size W w' :=
  (all_any _ 2 2 two _ two_row two_slights (by omega)).mono fun e w' h => ⟨by rw [h.1, two_yes], alloc_below h.2⟩

def Ten (W : World) (e : Ending) (w' : World) : Prop := ∃ A c, e = .returned (.slice A 2 c) ∧ Row kInt w' (· < w'.heap.size) A 2 [1, 0] ∧ Below W.heap.size W w'

theorem order_two (W : World) : Calls Try.prog 17 #[.slice (some ⟨W.heap.size, 0, none⟩) 2 2, .slice none 0 0] (W.alloc (.cells #[.string ⟨#[98]⟩, .int .i64 1, .int .i64 5, .string ⟨#[]⟩, .string ⟨#[]⟩, .bool false, .slice none 0 0, .slice none 0 0, .int .i64 0, .int .i64 100, .int .i64 0, .int .i64 0, .int .i64 0, .slice none 0 0, .slice none 0 0, .string ⟨#[97]⟩, .int .i64 1, .int .i64 5, .string ⟨#[]⟩, .string ⟨#[]⟩, .bool false, .slice none 0 0, .slice none 0 0, .int .i64 0, .int .i64 100, .int .i64 0, .int .i64 0, .int .i64 0, .slice none 0 0, .slice none 0 0] 28)) (Ten W) :=
  (order_any _ 2 2 two none 0 0 [] _ two_row (Row.nil _ _ _ _) (by omega) (by omega)).mono fun e w' ⟨v, he, hO, hb⟩ => by
    rw [two_order] at hO
    obtain ⟨A, c, rfl⟩ := hO.value
    exact ⟨A, c, he, hO.read, alloc_below hb⟩

theorem codes_one (W : World) : Calls Try.prog 21 #[.slice (some ⟨W.heap.size, 0, none⟩) 1 1] (W.alloc (.cells #[.string ⟨#[99]⟩] 9)) fun e w' => e = .returned (.bool true) ∧ w' = W.alloc (.cells #[.string ⟨#[99]⟩] 9) :=
  (codes_any _ 1 1 _ _ _ codes_c (by omega)).mono fun e w' h => ⟨by rw [h.1, codes_yes], h.2⟩

theorem plain_ten (W : World) (A : Option Addr) (c : Nat) (hr : Row kInt W (· < W.heap.size) A 2 [1, 0]) : Calls Try.prog 23 #[.slice A 2 c, .slice (some ⟨W.heap.size, 0, none⟩) 2 2] (W.alloc (.cells #[.int .i64 1, .int .i64 0] 3)) fun e w' => e = .returned (.bool true) ∧ Below W.heap.size W w' :=
  (Hp.plain_int A _ 2 2 c 2 [1, 0] [1, 0] (· < (W.alloc (.cells #[.int .i64 1, .int .i64 0] 3)).heap.size) _ ((hr.below ((Below.refl W.heap.size W).alloc (Nat.le_refl _) _) (Nat.le_refl _)).more fun b hb => by simp; omega) one_row2 (fun b hb => hb) (by omega)).mono fun e w' h => ⟨by rw [h.1]; rfl, alloc_below h.2⟩

end Go.Proofs.Ytgimcleeamlgcaa.Pm
