/- The landed package goods: a contract a call. -/
import Derived.Test.YtgimcleeamlgcaaGdM
import Derived.Test.YtgimcleeamlgcaaPyA
import Derived.Deep.Quiet
import Derived.Deep.QuietTactic
set_option maxRecDepth 100000

set_option linter.unusedVariables false
namespace Go.Proofs.Ytgimcleeamlgcaa.Gd
open Go.ChangeShapes Go.WideShapes Go.ChangeAt Go.RowKit
open It (Itm kItem row_item row_ok)
open Kd (Row Fit)

theorem plain_any (z : Int) (w : World) (h0 : 0 ≤ z) (h1 : z ≤ 255) : Calls Try.prog 73 #[.int .u8 z] w fun e w' => e = .returned (.bool (Sr.plain z)) ∧ w' = w := by
  obtain ⟨hp, c1, c2⟩ | ⟨hp, c1, c2, c3⟩ | ⟨hp, c1, c2⟩ | ⟨hp, c1, d0⟩ | ⟨hp, c1, c2, d0⟩ | ⟨hp, c1, d0⟩ := Py.plain_cases z
  · rw [hp]; clear hp
    go_enter Try.func73, Try.ntmps73
    go_wp2
    go_ret
    exact ⟨rfl, rfl⟩
  · rw [hp]; clear hp
    have d1 : ¬ (97 : Int) ≤ z := by omega
    go_enter Try.func73, Try.ntmps73
    go_wp2
    go_ret
    exact ⟨rfl, rfl⟩
  · rw [hp]; clear hp
    subst c2
    go_enter Try.func73, Try.ntmps73
    go_wp2
    go_ret
    exact ⟨rfl, rfl⟩
  · rw [hp]; clear hp
    have d1 : (97 : Int) ≤ z := by omega
    have d2 : ¬ z ≤ (122 : Int) := by omega
    have d3 : (48 : Int) ≤ z := by omega
    have d4 : ¬ z ≤ (57 : Int) := by omega
    have d5 : (z == 45) = false := beq_eq_false_iff_ne.2 d0
    go_enter Try.func73, Try.ntmps73
    go_wp2
    go_ret
    exact ⟨rfl, rfl⟩
  · rw [hp]; clear hp
    have d1 : ¬ (97 : Int) ≤ z := by omega
    have d3 : (48 : Int) ≤ z := by omega
    have d4 : ¬ z ≤ (57 : Int) := by omega
    have d5 : (z == 45) = false := beq_eq_false_iff_ne.2 (by omega)
    go_enter Try.func73, Try.ntmps73
    go_wp2
    go_ret
    exact ⟨rfl, rfl⟩
  · rw [hp]; clear hp
    have d1 : ¬ (97 : Int) ≤ z := by omega
    have d3 : ¬ (48 : Int) ≤ z := by omega
    have d5 : (z == 45) = false := beq_eq_false_iff_ne.2 d0
    go_enter Try.func73, Try.ntmps73
    go_wp2
    go_ret
    exact ⟨rfl, rfl⟩

set_option maxHeartbeats 1000000 in
theorem name_any (s : ByteArray) (w : World) (hs : s.size ≤ maxLen) : Calls Try.prog 53 #[.string s] w fun e w' => e = .returned (.bool (Sr.name s)) ∧ w' = w := by
  unfold maxLen at hs
  by_cases c1 : s.size < 1
  · have d1 : (s.size : Int) < 1 := by omega
    have HF := Lib.hid (Sr.name_none c1)
    clear c1
    go_enter Try.func53, Try.ntmps53
    go_wp2
    go_ret
    exact ⟨by rw [HF.out]; rfl, rfl⟩
  by_cases c2 : 12 < s.size
  · have d1 : ¬ (s.size : Int) < 1 := by omega
    have d2 : (12 : Int) < (s.size : Int) := by omega
    have HF := Lib.hid (Sr.name_long c2)
    clear c1 c2
    go_enter Try.func53, Try.ntmps53
    go_wp2
    go_ret
    exact ⟨by rw [HF.out]; rfl, rfl⟩
  have d1 : ¬ (s.size : Int) < 1 := by omega
  have d2 : ¬ (12 : Int) < (s.size : Int) := by omega
  have hA := fun k (hk : k < s.size) W => Py.run_at 9 Try.underlying9 s k hk W
  have HA := Lib.hid hA
  clear hA
  go_enter Try.func53, Try.ntmps53
  go_wp2
  go_loopw [14] (fun s3 wr => ∃ k : Nat, s3 = .int .i64 k ∧ k ≤ s.size ∧ wr = w ∧ ∀ (j : Nat) (b : UInt8), j < k → s.data.toList[j]? = some b → Sr.plain (b.toNat : Int) = true) (fun s3 _ => s.size - (intOf s3).toNat)
  case atStart => exact ⟨0, rfl, by omega, rfl, fun j b hj => by omega⟩
  case round =>
    obtain ⟨k, rfl, hk, rfl, hE⟩ := hrel
    have HE := Lib.hid hE
    clear hE
    by_cases h1 : k < s.size
    · have k1 : (k : Int) < (s.size : Int) := by omega
      have hi := HA.out k h1 wr
      obtain ⟨b, hb1, hb2⟩ := Py.byte_at h1
      rw [hb2] at hi
      have HB := Lib.hid hb1
      have hbn := By.at_in s.data.toList k
      rw [hb2] at hbn
      clear hb1 hb2
      obtain ⟨z, hz⟩ : ∃ z : Int, (b.toNat : Int) = z := ⟨_, rfl⟩
      have HZ := Lib.hid hz
      rw [hz] at hi hbn
      clear hz
      have HC := Lib.hid (plain_any z wr hbn.1 hbn.2)
      cases hp : Sr.plain z with
      | true =>
        rw [hp] at HC
        have HP := Lib.hid hp
        clear hp
        go_wp2_with fail
        refine HC.out.mono ?_
        rintro e w1 ⟨rfl, rfl⟩
        go_wp2
        go_roundw
        case rel => exact ⟨k + 1, by go_num, by omega, by trivial, fun j b' hj hb' => by
          rcases Nat.lt_or_ge j k with h | h
          · exact HE.out j b' h hb'
          · obtain rfl : j = k := by omega
            rw [HB.out] at hb'
            injection hb' with hb'
            subst hb'
            rw [HZ.out]; exact HP.out⟩
        case measure => simp [intOf]; omega
      | false =>
        rw [hp] at HC
        have HF := Lib.hid (Sr.name_bad HB.out (by rw [HZ.out]; exact hp))
        clear hp
        go_wp2_with fail
        refine HC.out.mono ?_
        rintro e w1 ⟨rfl, rfl⟩
        go_wp2
        go_ret
        exact ⟨by rw [HF.out]; rfl, rfl⟩
    · have k1 : ¬ (k : Int) < (s.size : Int) := by omega
      have HF : Hid (Sr.name s = true) := Lib.hid (by
        rw [Sr.name_size fun j b hj => HE.out j b (by
          have := (List.getElem?_eq_some_iff.1 hj).1
          rw [By.size_list] at this
          omega) hj]
        simp
        omega)
      go_wp2
      go_ret
      exact ⟨by rw [HF.out]; rfl, rfl⟩

/-! ### What rises -/
/-- How many at the beginning rise. -/
structure Rose (xs : List Itm) (r : Nat) : Prop where
  le : r ≤ xs.length
  some_ : 0 < xs.length → 0 < r
  rise : Rise (xs.take r)
  stop : ∀ x y, 0 < r → xs[r - 1]? = some x → xs[r]? = some y → Sr.lt x.sku y.sku = false

theorem Rose.all {xs : List Itm} {r : Nat} (h : Rose xs r) : r = xs.length ↔ Rise xs := by
  constructor
  · rintro rfl
    have := h.rise
    rw [List.take_length] at this
    exact this
  · intro hr
    rcases Nat.lt_or_ge r xs.length with h1 | h1
    · have h0 := h.some_ (by omega)
      obtain ⟨x, hx⟩ : ∃ x, xs[r - 1]? = some x := ⟨_, List.getElem?_eq_getElem (by omega)⟩
      obtain ⟨y, hy⟩ : ∃ y, xs[r]? = some y := ⟨_, List.getElem?_eq_getElem h1⟩
      have e := h.stop x y h0 hx hy
      rw [hr (r - 1) x y hx (by rw [show r - 1 + 1 = r by omega]; exact hy)] at e
      cases e
    · have := h.le
      omega

theorem rise_more {xs : List Itm} {k : Nat} (h : Rise (xs.take k)) (hk : ∀ x y, 0 < k → xs[k - 1]? = some x → xs[k]? = some y → Sr.lt x.sku y.sku = true) : Rise (xs.take (k + 1)) := fun i x y hx hy => by
  rw [List.getElem?_take] at hx hy
  split at hx
  · split at hy
    · rcases Nat.lt_or_ge (i + 1) k with h1 | h1
      · exact h i x y (by rw [List.getElem?_take, if_pos (by omega)]; exact hx) (by rw [List.getElem?_take, if_pos h1]; exact hy)
      · obtain rfl : k = i + 1 := by omega
        exact hk x y (by omega) hx hy
    · cases hy
  · cases hx

theorem cmpString_any (a b : ByteArray) (w : World) : Calls Try.prog 67 #[.string a, .string b] w fun e w' => e = .returned (.int .i64 (Lib.compareBytes a.data.toList b.data.toList)) ∧ w' = w := by
  go_enter Try.func67, Try.ntmps67
  go_wp2
  rw [run_callFunc_extern Try.func79 (by kernel_rfl) (by kernel_rfl) (by kernel_rfl) (e := Extern.BytealgCompare.compare) (by kernel_rfl), Lib.run_compareString]
  simp only [Result.andThen]
  rw [Oper.upon_value]
  go_wp2
  go_ret
  exact ⟨rfl, rfl⟩

/-- How one text stands to another. -/
def cmp (a b : ByteArray) : Int := if Sr.lt a b then -1 else if Sr.same a b then 0 else 1

theorem compare_any (a b : ByteArray) (w : World) : Calls Try.prog 47 #[.string a, .string b] w fun e w' => e = .returned (.int .i64 (cmp a b)) ∧ w' = w := by
  have HC := Lib.hid (cmpString_any a b w)
  rw [Sr.compare_eq] at HC
  change Hid (Calls Try.prog 67 #[.string a, .string b] w fun e w' => e = .returned (.int .i64 (cmp a b)) ∧ w' = w) at HC
  go_enter Try.func47, Try.ntmps47
  go_wp2_with fail
  refine HC.out.mono ?_
  rintro e w1 ⟨rfl, rfl⟩
  go_wp2
  go_ret
  exact ⟨rfl, rfl⟩

/-- A row, and nothing turned of what there was. -/
structure Kept (w wr : World) (F : Nat → Prop) (A : Option Addr) (n : Nat) (xs : List Itm) : Prop where
  row : Row kItem wr F A n xs
  below : Below w.heap.size w wr

theorem Kept.on {w wr w' : World} {F : Nat → Prop} {A : Option Addr} {n : Nat} {xs : List Itm} (h : Kept w wr F A n xs) (hF : ∀ b, F b → b < w.heap.size) (hb : Below wr.heap.size wr w') : Kept w w' F A n xs :=
  ⟨h.row.stay fun b hb2 => hb.block b (Nat.lt_of_lt_of_le (hF b hb2) h.below.size), Hk.andThen h.below hb⟩

theorem good_iff {xs : List Itm} {r : Nat} (hr : Rose xs r) (h5 : xs.length ≤ 500) {b : Bool} (hb : b = false ↔ ∀ (i : Nat) (x : Itm), xs[i]? = some x → itemB x = true) (e : r = xs.length) : goodB xs = !b := by
  cases b with
  | false => exact goodB_yes ⟨h5, hr.all.1 e, hb.1 rfl⟩
  | true => exact goodB_no fun h => by cases hb.2 h.each

end Go.Proofs.Ytgimcleeamlgcaa.Gd
